/-
  THE KEYS OF THE MAP OF KINDS, SORTED: the walk.
-/
import Derived.Test.YtgfclllfkpblnaaAj
import Derived.Sort.OwnSorted
namespace Go.Proofs.Ytgfclllfkpblnaa
open Go.RowKit Go.Maps
set_option linter.unusedVariables false

theorem info63 : (Try.prog.info? 83).map (fun i => (i.zero, i.size, i.bytes)) = some (some (.agg #[.int .i64 0, .int .i64 0]), 2, 16) := by kernel_rfl
theorem two_new2 (w : World) (o : Obj) (a b : Value) (t : TypeId) : ∀ (j : Nat) (u : Value), [a, b][j]? = some u → ((w.alloc o).alloc (.cells #[a, b] t)).cell? ((⟨w.heap.size + 1, 0, none⟩ : Addr).add j) = some u := by
  have := cell_two_new (w.alloc o) a b t
  rwa [show (w.alloc o).heap.size = w.heap.size + 1 by simp] at this
theorem size_own {w : World} {b n : Nat} {D : DataW Unit} (h : w.ownsMap Try.prog 83 (plainElem (H := Unit) Try.prog 2) b n D) : Maps.size D ≤ n := by
  obtain ⟨es, clock, _, F, hn, rfl⟩ := h
  show List.length _ ≤ n
  rw [length_sorted]
  simpa using hn

set_option maxRecDepth 100000 in
set_option maxHeartbeats 2000000 in
theorem se_any (b n : Nat) (D : DataW Unit) (w : World) (hn : n ≤ 1000) (hm : w.ownsMap Try.prog 83 (plainElem (H := Unit) Try.prog 2) b n D) :
    Calls Try.prog 47 #[.map (some b)] w fun e w' => ∃ (v : Value) (ks : List (Int × Int)), e = .returned v ∧ w'.ownsRow w.heap.size 83 2 v ks.length (enCells ks) ∧ ks.Pairwise Lt2 ∧ (∀ x ∈ ks, wfI x.1 ∧ wfI x.2) ∧ (∀ x, wfI x.1 ∧ wfI x.2 → (x ∈ ks ↔ Maps.has D (kOf x) = true)) ∧ Below w.heap.size w w' := by
  obtain ⟨i3, hi3, hd0, hd1, hd2⟩ := info_parts info63
  have HM := Lib.hid hm
  have hsz := size_own hm
  have hbl := hm.lt
  obtain ⟨w1, hrun, own1, grow1⟩ := run_make_own (P := Try.prog) w w.heap.size 88 83 i3 (.agg #[.int .i64 0, .int .i64 0]) 2 Try.underlying88 hi3 hd0 hd1 .i64 .i64 (Maps.size D) (by rw [hd2]; omega) (by unfold maxLen; omega) (Nat.le_refl _)
  have HM1 := Lib.hid (hm.kept grow1 (by simp))
  have O1 := Lib.hid own1
  have G1 := Lib.hid grow1
  clear hm own1 grow1
  go_enter Try.func47, Try.ntmps47
  go_wp2_with (first
    | (at_len; refine wpList_len_own _ rfl _ 80 rfl 83 2 Try.underlying80 _ b n D rfl HM.out ?_)
    | (at_range; refine wpList_range_own _ rfl _ 80 rfl 83 2 law63 Try.underlying80 _ b n D rfl HM1.out ?_; intro w0 hrg0 hg0 hs0)
    | go_in)
  go_frame
  have HS0 := Lib.hid (And.intro (O1.out.kept hg0 (.inr (by simp [Value.ownBlock]))) (((Below.refl w.heap.size w).grown G1.out (Nat.le_refl _) (fun j hj => by cases hj)).grown hg0 G1.out.size (fun j hj => by cases hj)))
  have R0 := Lib.hid hrg0
  have hr1 := G1.out.size
  clear hrg0 hg0 hs0 HM HM1 O1 hrun
  generalize w1.heap.size = r at *
  go_loopw [3] (fun v wr => ∃ (left : Lit → Bool) (cnt : Nat) (ks : List (Int × Int)) (g cap : Nat), v = .slice (some ⟨g, 0, none⟩) ks.length cap ∧ ks.length + cnt ≤ Maps.size D ∧ Hid (wr.ranges Try.prog 83 (plainElem (H := Unit) Try.prog 2) b r n D left cnt) ∧ Hid (wr.ownsRow w.heap.size 83 2 (.slice (some ⟨g, 0, none⟩) ks.length cap) ks.length (enCells ks)) ∧ Hid (Coll D left ks) ∧ Hid (Below w.heap.size w wr)) (fun _ wr => wr.rangeLeft b r)
  case atStart => exact ⟨_, _, [], w.heap.size, Maps.size D, rfl, by simp, R0, HS0.out.1, Coll.start D, HS0.out.2⟩
  case round =>
    obtain ⟨left, cnt, ks, g, cap, rfl, hc, RG, OW, CO, BE⟩ := hrel
    have hrne := row_ne_iter OW.out RG.out
    have hbne := row_ne_low OW.out hbl
    have hgb := OW.out.lt g rfl
    have hbs := BE.out.size
    generalize hq : ks.length = q at *
    have HQ := Lib.hid hq
    clear hq
    go_wp2_with (first | (at_next; refine wpList_next_ranges _ rfl _ rfl 83 law63 _ (fun x : Int × Int => EV x) (Value.int .i64) (fun key kl h => by obtain ⟨x, e, _⟩ := key_inv key kl h; exact ⟨x, e⟩) (fun v y hv => by obtain ⟨c, rfl, _⟩ := plainElem_int_inv Try.underlying2 hv; exact ⟨c, rfl⟩) b r n D left cnt rfl RG.out ?_ ?_) | go_in)
    · intro hc0 hl0
      have hcon := Lib.hid (Try.slices_SortFunc 2 Try.isAgg83 Try.sizeOf83 encE (fun _ => rfl) (fun x v hv => by simp [encE] at hv; rcases hv with rfl | rfl <;> rfl) cmpE swoE 50 #[] g 0 cap ks.toArray wr (enters_of Try.func50 (by kernel_rfl) rfl) (cmpLays g 0 _ wr) (holdsE OW.out HQ.out.symm) hgb.2 (by simp [HQ.out]; omega))
      have EC := Lib.hid (fun (x : Int × Int) (hx : wfI x.1 ∧ wfI x.2) => show x ∈ ks ↔ Maps.has D (kOf x) = true by rw [CO.out.mem x hx, hl0 (kOf x)]; simp)
      rw [show ks.toArray.size = q by simp [HQ.out]] at hcon
      clear hl0 RG
      go_wp2_with fail
      refine hcon.out.mono ?_
      rintro e w7 ⟨rfl, d', m7, os, hp, hs, rfl⟩
      have hp2 : Go.Sort.PermIn 0 ks.toArray.size ks.toArray d' := by rw [show ks.toArray.size = q by simp [HQ.out]]; exact hp
      have hs2 : Go.Sort.SortedIn (ltOf cmpE) 0 ks.toArray.size d' := by rw [show ks.toArray.size = q by simp [HQ.out]]; exact hs
      obtain ⟨hpw, hpm⟩ := rising_of hp2 hs2 (by simpa using CO.out.nd)
      have hl7 : d'.toList.length = ks.length := by have := hpm.length_eq; simpa using this
      have OWk := OW.out
      rw [← HQ.out] at OWk
      obtain ⟨own7, grow7⟩ := sorted_own (m := m7) (os := os) OWk hl7
      rw [show d'.toList.toArray = d' by simp] at own7 grow7
      have P : Hid (∃ (v : Value) (ks : List (Int × Int)), (.slice (some ⟨g, 0, none⟩) q cap) = v ∧ (sortWorldK encE 2 wr g 0 m7 d' os).ownsRow w.heap.size 83 2 v ks.length (enCells ks) ∧ ks.Pairwise Lt2 ∧ (∀ x ∈ ks, wfI x.1 ∧ wfI x.2) ∧ (∀ x, wfI x.1 ∧ wfI x.2 → (x ∈ ks ↔ Maps.has D (kOf x) = true)) ∧ Below w.heap.size w (sortWorldK encE 2 wr g 0 m7 d' os)) := by
        refine ⟨_, d'.toList, rfl, ?_, hpw, fun x hx => ?_, fun x hx => ?_, ?_⟩
        · rw [hl7, ← HQ.out]; exact own7
        · exact CO.out.wf x (by have := hpm.mem_iff.1 hx; simpa using this)
        · rw [hpm.mem_iff]; simpa using EC.out x hx
        · exact BE.out.grown grow7 hbs (fun j hj => by cases hj; exact hgb.1)
      clear own7 grow7 hp hs hp2 hs2 hpw hpm hcon OWk OW CO EC
      generalize sortWorldK encE 2 wr g 0 m7 d' os = w8 at *
      go_wp2
      go_ret
      obtain ⟨v, ks, e, h⟩ := P.out
      exact ⟨v, ks, by rw [← e]; rfl, h⟩
    · intro x1 x2 c kl yd yp w2 cnt2 hkey hlk hv hat hrg2 hlt hg2 hs2 hen
      obtain ⟨x', ex, wx⟩ := key_inv _ _ hkey
      have wx' : wfI x1 ∧ wfI x2 := by
        simp only [EV, Value.agg.injEq, Array.mk.injEq, List.cons.injEq, Value.int.injEq, true_and, and_true] at ex
        rw [ex.1, ex.2]; exact wx
      obtain rfl : kl = kOf (x1, x2) := by have := key_is (x1, x2) wx'; rw [hkey] at this; exact Option.some.inj this
      have C2 := Lib.hid (CO.out.step (x := (x1, x2)) wx' hlk (has_true_of_atKey hat))
      have O2 := Lib.hid (OW.out.kept hg2 (.inr (fun e => hrne e.symm)))
      have B2 := Lib.hid (BE.out.grown hg2 hbs (fun j hj => by cases hj; omega))
      have R2 := Lib.hid hrg2
      have hs2' := hg2.size
      have EV9 := Lib.hid (show enCells ks ++ [.int .i64 x1, .int .i64 x2] = enCells (ks ++ [(x1, x2)]) from (enCells_add ks (x1, x2)).symm)
      have RL := Lib.hid (show wr.rangeLeft b r = cnt from RG.out.left_eq)
      dsimp only [EV] at hen
      clear hkey hlk hv hat hrg2 hg2 hs2 ex wx wx' CO OW BE RG x'
      go_wp2_with (first | (at_builtin; refine wpList_append_lies _ rfl (.tmp 14) (.tmp 16) 88 rfl w.heap.size 83 i3 (.agg #[.int .i64 0, .int .i64 0]) 2 16 Try.underlying88 hi3 hd0 hd1 hd2 rfl (by decide) _ _ _ rfl ((O2.out.alloc _).alloc _) ⟨w2.heap.size + 1, 0, none⟩ 1 1 [.int .i64 x1, .int .i64 x2] (by simp [Act.eval]) rfl (two_new2 _ _ _ _ _) (by intro u hu; simp at hu; rcases hu with rfl | rfl <;> rfl) (by decide) (by unfold maxLen; omega) (by omega) (by simp; omega) (w2.heap.size + 2) (by simp) ?_) | go_in)
      intro g9 cap9 w9 own9 grow9 hg9 hlt9
      have RA := Lib.hid ((R2.out.alloc (.cells #[.int .i64 x1, .int .i64 x2] 83)).alloc (.cells #[.int .i64 x1, .int .i64 x2] 83))
      have R9 := Lib.hid (RA.out.kept grow9 hbne hrne)
      have B9 := Lib.hid ((bA (bA B2.out (.cells #[.int .i64 x1, .int .i64 x2] 83)) (.cells #[.int .i64 x1, .int .i64 x2] 83)).grown grow9 (by simp; omega) (fun j hj => by cases hj; exact hgb.1))
      rw [EV9.out] at own9
      have N9 : Hid (w9.ownsRow w.heap.size 83 2 (.slice (some ⟨g9, 0, none⟩) (ks ++ [(x1, x2)]).length cap9) (ks ++ [(x1, x2)]).length (enCells (ks ++ [(x1, x2)]))) := by
        show World.ownsRow _ _ _ _ _ _ _
        rw [List.length_append, HQ.out]; exact own9
      have LQ := Lib.hid (show (ks ++ [(x1, x2)]).length = q + 1 by rw [List.length_append, HQ.out]; rfl)
      clear own9 grow9 hg9 hlt9 RA R2 O2 B2 hen
      go_wp2_with fail
      go_roundw
      case rel => exact ⟨_, cnt2, ks ++ [(x1, x2)], g9, cap9, by rw [LQ.out], by rw [LQ.out]; omega, R9, N9, C2, B9⟩
      case measure => rw [R9.out.left_eq, RL.out]; exact hlt
end Go.Proofs.Ytgfclllfkpblnaa
