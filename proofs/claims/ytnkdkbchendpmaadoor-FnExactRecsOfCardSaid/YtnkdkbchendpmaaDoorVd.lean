/-
  TWO LISTS OF RECORDS HELD AGAINST EACH OTHER, one marked and held: the walks.
-/
import Derived.Test.YtnkdkbchendpmaaDoorVc
import Derived.Deep.RegionHeldLaw
namespace Go.Proofs.YtnkdkbchendpmaaDoor
open Go.RowKit
set_option linter.unusedVariables false

theorem own_vi {B : Nat} {w : World} {v : Value} {zs : List Int} (h : w.ownsRow B 2 1 v zs.length (valsZ zs)) : ∃ sl cap, v = .slice sl zs.length cap := by
  obtain ⟨sl, cap, e, -⟩ := own_ints h
  exact ⟨sl, cap, e⟩

/-- Nothing has turned but blocks from B on, below L. -/
structure Btw (B L : Nat) (w w' : World) : Prop where
  os : w'.os = w.os
  tape : w'.tape = w.tape
  output : w'.output = w.output
  size : w.heap.size ≤ w'.heap.size
  block : ∀ k, k < w.heap.size → (k < B ∨ L ≤ k) → w'.heap[k]? = w.heap[k]?
theorem Btw.refl (B L : Nat) (w : World) : Btw B L w w := ⟨rfl, rfl, rfl, Nat.le_refl _, fun _ _ _ => rfl⟩
theorem Btw.trans {B L : Nat} {u v w : World} (h : Btw B L u v) (k : Btw B L v w) : Btw B L u w :=
  ⟨k.os.trans h.os, k.tape.trans h.tape, k.output.trans h.output, Nat.le_trans h.size k.size, fun j hj hc => (k.block j (Nat.lt_of_lt_of_le hj h.size) hc).trans (h.block j hj hc)⟩
theorem Btw.grown {B L : Nat} {w0 w w' : World} {row : Option Nat} (h : Btw B L w0 w) (hg : w.grownBy w' row) (hr : ∀ j, row = some j → B ≤ j ∧ j < L) : Btw B L w0 w' :=
  h.trans ⟨hg.os, hg.tape, hg.output, hg.size, fun k hk hc => hg.block k hk (fun e => by have := hr k e.symm; omega)⟩
theorem Btw.alloc {B L : Nat} (w : World) (o : Obj) : Btw B L w (w.alloc o) := (Btw.refl B L w).grown (World.grownBy_alloc w o none) (fun j hj => by cases hj)
theorem Btw.below {B L : Nat} {w w' : World} (h : Btw B L w w') (hB : B ≤ w.heap.size) : Below B w w' := ⟨h.os, h.tape, h.output, h.size, fun k hk => h.block k (Nat.lt_of_lt_of_le hk hB) (.inl hk)⟩
theorem RecsB.mid {B : Nat} {w : World} {sl : Option Addr} {n cap : Nat} {p q : RcL} {a : Int} {u : Value} {zs : List Int} (h : RecsB B w (.slice sl n cap) (p ++ (a, u, zs) :: q)) :
    ∃ g, sl = some ⟨g, 0, none⟩ ∧ B ≤ g ∧ g < w.heap.size ∧ w.cell? ⟨g, p.length * 2, none⟩ = some (.int .i64 a) ∧ w.cell? ⟨g, p.length * 2 + 1, none⟩ = some u ∧ (∀ o, w.frozen? ⟨g, o, none⟩ = false) := by
  obtain ⟨g, cap', ev, hBg, hgl, c0, c1, cf⟩ := h.at p.length (by simp)
  simp only [Value.slice.injEq] at ev
  simp only [List.getElem_append_right (Nat.le_refl _), Nat.sub_self, List.getElem_cons_zero] at c0 c1
  exact ⟨g, ev.1, hBg, hgl, c0, c1, cf⟩

set_option maxRecDepth 100000 in
set_option maxHeartbeats 1000000 in
theorem mks_any (B L : Nat) (v : Value) (rs : RcL) (hn : rs.length ≤ 1048576) (hz : ∀ r ∈ rs, r.2.2.length ≤ 60) (ha : Apart rs) (hL : ∀ j, v.ownBlock = some j → j < L) (hLr : ∀ r ∈ rs, ∀ j, r.2.1.ownBlock = some j → j < L) (w : World) (h : RecsB B w v rs) :
    Calls Tryd.prog 55 #[v, .int .i64 1] w fun e w' => e = .returned (.int .i64 (tot 1 rs)) ∧ RecsB B w' v (mkd 1 rs) ∧ Btw B L w w' := by
  obtain ⟨sl, cap, rfl⟩ := h.form
  have H := Lib.hid h
  have HA := Lib.hid ha
  have HZ := Lib.hid hz
  have HL := Lib.hid hL
  have HLr := Lib.hid hLr
  clear h ha hz hL hLr
  generalize hN : rs.length = n at *
  have HN := Lib.hid hN
  clear hN
  go_enter Tryd.func55, Tryd.ntmps55
  go_wp2
  go_loopw [1, 5] (fun m i wr => ∃ j : Nat, i = .int .i64 j ∧ m = .int .i64 (tot 1 (rs.take j)) ∧ j ≤ n ∧ Hid (RecsB B wr (.slice sl n cap) (half rs j)) ∧ Hid (Btw B L w wr)) (fun _ i _ => n - (intOf i).toNat)
  case atStart => exact ⟨0, rfl, by simp [tot], Nat.zero_le _, by rw [half_zero]; exact H, Btw.refl _ _ _⟩
  case round =>
    obtain ⟨j, rfl, rfl, hj, H1, H2⟩ := hrel
    have hj0 : (0 : Int) ≤ (j : Int) := by omega
    by_cases h1 : j < n
    · have h1' : (j : Int) < (n : Int) := by omega
      have hlt : j < rs.length := by rw [HN.out]; exact h1
      obtain ⟨a, u, zs, hr⟩ : ∃ a u zs, rs[j] = (a, u, zs) := ⟨_, _, _, rfl⟩
      have R1 := Lib.hid (H1.out)
      rw [half_at rs j hlt, hr] at R1
      obtain ⟨t0, t1⟩ := tot_le 1 (rs.take j) (fun r hr => HZ.out r (List.mem_of_mem_take hr))
      have hl : (rs.take j).length = j := by rw [List.length_take]; omega
      rw [hl] at t1
      have hpl := Lib.hid (show (mkd 1 (rs.take j)).length = j by rw [mkd_len, hl])
      have hz1 := HZ.out rs[j] (List.getElem_mem hlt)
      have N1 := Lib.hid (half_next rs j hlt)
      have T1 := Lib.hid (tot_next rs j hlt)
      have A1 := Lib.hid (HA.out.at j hlt)
      have hLz := Lib.hid (HLr.out rs[j] (List.getElem_mem hlt))
      rw [hr] at hz1 N1 T1 A1 hLz
      dsimp only at hz1 N1 T1 A1 hLz
      clear hr hl
      generalize tot 1 (rs.take j) = k at *
      generalize mkd 1 (rs.take j) = p at *
      generalize rs.drop (j + 1) = q at *
      obtain ⟨g, ev, hBg, hgl, c0, c1, cf⟩ := R1.out.mid
      obtain rfl : sl = some ⟨g, 0, none⟩ := ev
      rw [hpl.out] at c0 c1
      have U1 : wr.ownsRow B 2 1 u zs.length (valsZ zs) := R1.out.each (a, u, zs) (by simp)
      obtain ⟨sl2, cap2, hu⟩ := own_vi U1
      subst hu
      clear U1
      obtain ⟨K1, G1⟩ := R1.out.kind k
      rw [hpl.out] at K1 G1
      have M1 := Lib.hid (mark_row B _ zs (k + 1) (by omega) (by omega) (by omega) _ (K1.each (k, .slice sl2 zs.length cap2, zs) (by simp)))
      have K2 := Lib.hid K1
      have cf2 := cf (j * 2)
      have hz2 : zs.length ≤ 60 := hz1
      clear K1 cf hz1
      have B1 := Lib.hid (H2.out.grown G1 (fun j hj => by cases hj; exact ⟨hBg, HL.out g rfl⟩))
      have LU := Lib.hid (fun x => (K2.out.each (k, .slice sl2 zs.length cap2, zs) (by simp)).lt x)
      generalize hZ : zs.length = z at *
      have SZ : Hid ((wr.setCell ⟨g, j * 2, none⟩ (.int .i64 k)).heap.size = wr.heap.size) := by show _ = _; simp [World.setCell]
      clear G1 hlt
      go_wp2_with fail
      refine M1.out.mono ?_
      rintro e w2 ⟨rfl, o2, g2⟩
      have S1 : Hid (RecsB B w2 (.slice (some ⟨g, 0, none⟩) n cap) (half rs (j + 1))) := by
        rw [N1.out]
        exact K2.out.nums A1.out (by rw [marks_len]; exact o2) g2
      have B2 := Lib.hid (B1.out.grown g2 (fun x hx => ⟨(LU.out x hx).1, hLz.out x hx⟩))
      clear o2 g2 B1 K2 LU M1 R1 H1
      go_wp2
      go_roundw
      case rel => exact ⟨j + 1, by go_num, by rw [T1.out], by omega, S1, B2⟩
      case measure => simp [intOf]; omega
    · have h1' : ¬ (j : Int) < (n : Int) := by omega
      have hkn : j = rs.length := by rw [HN.out]; omega
      have H4 : Hid (RecsB B wr (.slice sl n cap) (mkd 1 rs) ∧ tot 1 (rs.take j) = tot 1 rs) := by
        have := H1.out
        rw [hkn, half_all] at this
        exact ⟨this, by rw [hkn, List.take_length]⟩
      clear hkn
      go_wp2
      go_ret
      exact ⟨by rw [← H4.out.2]; rfl, H4.out.1, H2.out⟩

set_option maxRecDepth 100000 in
set_option maxHeartbeats 1000000 in
theorem hds_any (B : Nat) (v : Value) (rs : RcL) (hn : rs.length ≤ 1048576) (hz : ∀ r ∈ rs, r.2.2.length ≤ 60) (w : World) (h : RecsB B w v (mkd 1 rs)) :
    Calls Tryd.prog 56 #[v, .int .i64 1] w fun e w' => e = .returned (.int .i64 (tot 1 rs)) ∧ Below w.heap.size w w' := by
  obtain ⟨sl, cap, rfl⟩ := h.form
  have H := Lib.hid h
  have HZ := Lib.hid hz
  rw [mkd_len] at *
  clear h hz
  generalize hN : rs.length = n at *
  have HN := Lib.hid hN
  clear hN
  go_enter Tryd.func56, Tryd.ntmps56
  go_wp2
  go_loopw [1, 5] (fun m i wr => ∃ j : Nat, i = .int .i64 j ∧ m = .int .i64 (tot 1 (rs.take j)) ∧ j ≤ n ∧ Hid (Below w.heap.size w wr)) (fun _ i _ => n - (intOf i).toNat)
  case atStart => exact ⟨0, rfl, by simp [tot], Nat.zero_le _, Below.refl _ _⟩
  case round =>
    obtain ⟨j, rfl, rfl, hj, H2⟩ := hrel
    have hj0 : (0 : Int) ≤ (j : Int) := by omega
    by_cases h1 : j < n
    · have h1' : (j : Int) < (n : Int) := by omega
      have hlt : j < rs.length := by rw [HN.out]; exact h1
      have R1 := Lib.hid (H.out.below H2.out)
      obtain ⟨t0, t1⟩ := tot_le 1 (rs.take j) (fun r hr => HZ.out r (List.mem_of_mem_take hr))
      have hl : (rs.take j).length = j := by rw [List.length_take]; omega
      rw [hl] at t1
      have hz2 := HZ.out rs[j] (List.getElem_mem hlt)
      have T1 := Lib.hid (tot_next rs j hlt)
      obtain ⟨hl2, em⟩ := mkd_at 1 rs j hlt
      obtain ⟨g, cap', ev, hBg, hgl, c0, c1, cf⟩ := R1.out.at j hl2
      have U1 := R1.out.each (mkd 1 rs)[j] (List.getElem_mem hl2)
      rw [em] at c0 c1 U1
      obtain ⟨rfl, -, -⟩ : sl = some ⟨g, 0, none⟩ ∧ True ∧ True := ⟨by simpa using (Value.slice.inj ev).1, trivial, trivial⟩
      dsimp only at c0 c1 U1
      rw [marks_len] at U1
      generalize tot 1 (rs.take j) = k at *
      generalize rs[j].2.2.length = z at *
      generalize rs[j].2.1 = u at *
      have M1 := Lib.hid (held_row B u z (k + 1) (by omega) (by omega) (by omega) _ U1)
      obtain ⟨sl2, cap2, hu⟩ : ∃ sl2 cap2, u = .slice sl2 z cap2 := by
        rcases U1.2 with ⟨rfl, h0⟩ | ⟨g, cap, cur, rfl, _⟩
        · exact ⟨none, 0, by rw [h0]⟩
        · exact ⟨_, cap, rfl⟩
      subst hu
      have hk2 : ¬ (k + 1 + (z : Int)) < 0 := by omega
      clear U1 ev em cf R1 hl hlt
      go_wp2_with fail
      refine M1.out.mono ?_
      rintro e w2 ⟨rfl, rfl⟩
      go_wp2
      go_roundw
      case rel => exact ⟨j + 1, by go_num, by rw [T1.out], by omega, H2⟩
      case measure => simp [intOf]; omega
    · have h1' : ¬ (j : Int) < (n : Int) := by omega
      have H4 := Lib.hid (show tot 1 (rs.take j) = tot 1 rs by rw [show j = rs.length by rw [HN.out]; omega, List.take_length])
      go_wp2
      go_ret
      exact ⟨by rw [← H4.out]; rfl, H2.out⟩

set_option maxRecDepth 100000 in
set_option maxHeartbeats 2000000 in
theorem eqs_any (B B' : Nat) (v v' : Value) (rs rs' : RcL) (hn : rs.length ≤ 1048576) (hz : ∀ r ∈ rs, r.2.2.length ≤ 60) (hb : bare rs = bare rs') (w : World) (h : RecsB B w v rs) (h' : RecsB B' w v' rs') :
    Calls Tryd.prog 54 #[v, v'] w fun e w' => e = .returned (.bool true) ∧ Below w.heap.size w w' := by
  have hlen : rs.length = rs'.length := by have := congrArg List.length hb; simpa [bare] using this
  obtain ⟨sl, cap, rfl⟩ := h.form
  obtain ⟨sl', cap', rfl⟩ := h'.form
  rw [← hlen] at *
  have H := Lib.hid h
  have H' := Lib.hid h'
  have HZ := Lib.hid hz
  have HB := Lib.hid hb
  clear h hz h' hb hlen
  generalize hN : rs.length = n at *
  have HN := Lib.hid hN
  clear hN
  go_enter Tryd.func54, Tryd.ntmps54
  go_wp2
  go_loopw [5] (fun i wr => ∃ j : Nat, i = .int .i64 j ∧ j ≤ n ∧ Hid (Below w.heap.size w wr)) (fun i _ => n - (intOf i).toNat)
  case atStart => exact ⟨0, rfl, Nat.zero_le _, Below.refl _ _⟩
  case round =>
    obtain ⟨j, rfl, hj, H2⟩ := hrel
    have hj0 : (0 : Int) ≤ (j : Int) := by omega
    by_cases h1 : j < n
    · have h1' : (j : Int) < (n : Int) := by omega
      have hlt : j < rs.length := by rw [HN.out]; exact h1
      have hlt' : j < rs'.length := by have := congrArg List.length HB.out; simp [bare] at this; omega
      have R1 := H.out.below H2.out
      have R2 := H'.out.below H2.out
      obtain ⟨g, cp, ev, hBg, hgl, c0, c1, cf⟩ := R1.at j hlt
      obtain ⟨g', cp', ev', hBg', hgl', c0', c1', cf'⟩ := R2.at j hlt'
      obtain rfl : sl = some ⟨g, 0, none⟩ := (Value.slice.inj ev).1
      obtain rfl : sl' = some ⟨g', 0, none⟩ := (Value.slice.inj ev').1
      have U1 := R1.each rs[j] (List.getElem_mem hlt)
      have U2 := R2.each rs'[j] (List.getElem_mem hlt')
      have hz2 := HZ.out rs[j] (List.getElem_mem hlt)
      have e1 : (rs[j].1, rs[j].2.2) = (rs'[j].1, rs'[j].2.2) := by
        have := congrArg (fun l => l[j]?) HB.out
        simpa [bare, hlt, hlt'] using this
      obtain ⟨a, u, zs, hr⟩ : ∃ a u zs, rs[j] = (a, u, zs) := ⟨_, _, _, rfl⟩
      obtain ⟨a', u', zs', hr'⟩ : ∃ a u zs, rs'[j] = (a, u, zs) := ⟨_, _, _, rfl⟩
      rw [hr] at U1 c0 c1 hz2 e1
      rw [hr'] at U2 c0' c1' e1
      dsimp only at U1 U2 c0 c1 c0' c1' hz2 e1
      obtain ⟨rfl, rfl⟩ : a = a' ∧ zs = zs' := by simpa using e1
      obtain ⟨s2, cap2, rfl, i1⟩ := own_ints U1
      obtain ⟨s3, cap3, rfl, i2⟩ := own_ints U2
      have E : Hid (∀ W, Below wr.heap.size wr W → Calls Tryd.prog 23 #[RV a s2 zs.length cap2, RV a s3 zs.length cap3] W fun e w' => e = .returned (.bool true) ∧ Below W.heap.size W w') :=
        fun W hW => eqR_any a s2 s3 cap2 cap3 zs W (by unfold maxLen; omega) (i1.below hW) (i2.below hW)
      generalize zs.length = z at *
      have KB : Hid (∀ W, Below wr.heap.size wr W → g < W.heap.size ∧ g' < W.heap.size ∧ W.cell? ⟨g, j * 2, none⟩ = some (.int .i64 a) ∧ W.cell? ⟨g, j * 2 + 1, none⟩ = some (.slice s2 z cap2) ∧ W.cell? ⟨g', j * 2, none⟩ = some (.int .i64 a) ∧ W.cell? ⟨g', j * 2 + 1, none⟩ = some (.slice s3 z cap3)) :=
        fun W hW => ⟨Nat.lt_of_lt_of_le hgl hW.size, Nat.lt_of_lt_of_le hgl' hW.size, (hW.cell hgl).trans c0, (hW.cell hgl).trans c1, (hW.cell hgl').trans c0', (hW.cell hgl').trans c1'⟩
      have HKS := Lib.hid (KB.out wr (Below.refl _ _))
      clear U1 U2 ev ev' R1 R2 cf cf' hr hr' hlt hlt' i1 i2 e1
      go_wp2_with fail
      go_region_held_law (fun W => g < W.heap.size ∧ g' < W.heap.size ∧ W.cell? ⟨g, j * 2, none⟩ = some (.int .i64 a) ∧ W.cell? ⟨g, j * 2 + 1, none⟩ = some (.slice s2 z cap2) ∧ W.cell? ⟨g', j * 2, none⟩ = some (.int .i64 a) ∧ W.cell? ⟨g', j * 2 + 1, none⟩ = some (.slice s3 z cap3)) (first | exact HKS.out | exact HKS5.out) (first | (go_at_call 23; refine (E.out _ (by first | exact Below.refl _ _ | exact (Below.refl _ _).drew | exact Go.below_drewN (Below.refl _ _) _)).mono ?_; rintro e w5 ⟨rfl, b5⟩; have D5 : Hid (Below wr.heap.size wr w5) := bT ((Below.refl wr.heap.size wr).drew) b5; have HKS5 := Lib.hid (KB.out _ D5.out)))
      have BQ5 := Lib.hid (bT H2.out D5.out)
      clear b5 HKS5 HKS KB E c0 c1 c0' c1'
      go_wp2_with fail
      go_roundw
      case rel => exact ⟨j + 1, by go_num, by omega, BQ5⟩
      case measure => simp [intOf]; omega
    · have h1' : ¬ (j : Int) < (n : Int) := by omega
      go_wp2
      go_ret
      exact ⟨rfl, H2.out⟩

end Go.Proofs.YtnkdkbchendpmaaDoor
