/-
  IS A TRAIL RIGHT? Both sides.
-/
import Derived.Test.YtendehejodgljaaKb
namespace Go.Proofs.Ytendehejodgljaa
open Go.RowKit
set_option linter.unusedVariables false

theorem pig : ∀ (n : Nat) (l : List Nat), l.Nodup → (∀ x ∈ l, 1 ≤ x ∧ x ≤ n) → l.length ≤ n
  | 0, l, _, h => by
    cases l with
    | nil => simp
    | cons a r => have := h a (by simp); omega
  | n + 1, l, hd, h => by
    by_cases hm : n + 1 ∈ l
    · have h1 := pig n (l.erase (n + 1)) (hd.erase _) (fun x hx => by
        have h2 := (hd.mem_erase_iff).1 hx
        have := h x h2.2
        have := h2.1
        omega)
      rw [List.length_erase_of_mem hm] at h1
      omega
    · have := pig n l hd (fun x hx => by
        have h2 := h x hx
        have : x ≠ n + 1 := fun e => hm (e ▸ hx)
        omega)
      omega
theorem SpTo.short {vars : Int} {zs : List Int} (h : SpTo vars zs zs.length) (hv : vars ≤ 96) : zs.length ≤ 96 := by
  have h1 : (zs.map Int.natAbs).Nodup := by
    rw [List.nodup_iff_pairwise_ne, List.pairwise_iff_getElem]
    intro i j hi hj hij e
    simp only [List.length_map] at hi hj
    simp only [List.getElem_map] at e
    have g := (h j hj).2 i hij
    simp only [List.getD_eq_getElem?_getD, hi, hj, List.getElem?_eq_getElem, Option.getD_some] at g
    rcases Int.natAbs_eq_natAbs_iff.1 e with e | e
    · exact g.1 e
    · exact g.2 e
  have h2 := pig 96 _ h1 (fun x hx => by
    obtain ⟨z, hz, rfl⟩ := List.mem_map.1 hx
    obtain ⟨i, hi, rfl⟩ := List.getElem_of_mem hz
    have g := (h i hi).1
    simp only [List.getD_eq_getElem?_getD, hi, List.getElem?_eq_getElem, Option.getD_some] at g
    obtain ⟨g1, g2, g3⟩ := g
    omega)
  simpa using h2
theorem clS_iff {vars : Int} {zs : List Int} (hv : vars ≤ 96) : ClS vars 96 zs ↔ SpTo vars zs zs.length := ⟨fun h => h.2, fun h => ⟨h.short hv, h⟩⟩

/-- spec.l06Clause, as wide as there are variables. -/
theorem l06_wide (vars : Int) (sl : Option Addr) (cap : Nat) (zs : List Int) (w : World) (hv0 : 0 ≤ vars) (hv1 : vars ≤ 96) (hn : zs.length ≤ 1048576) (hz : Ints w sl zs) :
    Calls Try.prog 47 #[.int .i64 vars, .slice sl zs.length cap, .int .i64 96] w fun e w' => e = .returned (.bool (B (SpTo vars zs zs.length))) ∧ Below w.heap.size w w' := by
  rw [← B_iff (clS_iff hv1)]
  rcases hz with rfl | ⟨c, o, rfl, h⟩
  · rw [B_yes (p := ClS vars 96 []) ⟨by simp, fun i hi => by simp at hi⟩]
    exact l06_nil vars sl cap 96 w
  · exact l06_some vars c o cap 96 zs w hv0 hv1 hn h

/-- A trail, for right clauses. -/
def TrR (vars : Int) (css : List (List Int)) (ts : List Int) : Prop := ts.length ≤ 400 ∧ CnfR vars css ∧ SpTo vars ts ts.length

set_option maxRecDepth 100000 in
set_option maxHeartbeats 2000000 in
/-- spec.TrailRight. -/
theorem str_any (vars : Int) (sl : Option Addr) (cap : Nat) (cs : List LCl) (sl2 : Option Addr) (cap2 : Nat) (ts : List Int) (w : World) (hn : cs.length ≤ maxLen) (hs : totC cs ≤ 1048576) (hwf : WfC cs) (hm : ts.length ≤ 1048576) (hz : Cls w sl cs) (ht : Ints w sl2 ts) :
    Calls Try.prog 29 #[CV vars sl cs.length cap, .slice sl2 ts.length cap2] w fun e w' => e = .returned (.bool (B (TrR vars (bareC cs) ts))) ∧ Below w.heap.size w w' := by
  have B0 := Lib.hid (bA0 w (.cells #[.int .i64 vars, .slice sl cs.length cap] 25))
  have CA := Lib.hid (CnfAt.new w vars sl cs.length cap)
  have hln := hn
  unfold maxLen at hln
  by_cases c1 : 400 < ts.length
  · rw [B_no (p := TrR vars (bareC cs) ts) (fun g => by have := g.1; omega)]
    have c1' : ¬ (ts.length : Int) ≤ 400 := by omega
    clear hz ht hwf hs CA hn
    generalize cs.length = n at *
    generalize ts.length = m at *
    go_enter Try.func29, Try.ntmps29
    go_wp2
    go_ret
    exact ⟨rfl, B0.out⟩
  have c1' : (ts.length : Int) ≤ 400 := by omega
  have E1 := Lib.hid (scr_any vars sl cap cs _ hn hs hwf (hz.below B0.out))
  by_cases c2 : CnfR vars (bareC cs)
  · have E2 : Hid (∀ W, Below w.heap.size w W → Calls Try.prog 47 #[.int .i64 vars, .slice sl2 ts.length cap2, .int .i64 96] W fun e w' => e = .returned (.bool (B (SpTo vars ts ts.length))) ∧ Below W.heap.size W w') := fun W hW => l06_wide vars sl2 cap2 ts W c2.1.1 c2.1.2 hm (ht.below hW)
    rw [B_iff (show TrR vars (bareC cs) ts ↔ SpTo vars ts ts.length from ⟨fun g => g.2.2, fun g => ⟨by omega, c2, g⟩⟩)]
    rw [B_yes c2] at E1
    clear hz ht hwf hs hn c2
    generalize B (SpTo vars ts ts.length) = r at *
    generalize cs.length = n at *
    generalize ts.length = m at *
    go_enter Try.func29, Try.ntmps29
    go_wp2_with fail
    refine E1.out.mono ?_
    rintro e w1 ⟨rfl, b1⟩
    obtain ⟨t0, t1⟩ := (CA.out.below b1).cells
    have tl := (CA.out.below b1).lt
    have D1 := Lib.hid (bT B0.out b1)
    clear b1 E1 CA
    go_wp2_with fail
    refine (E2.out _ D1.out).mono ?_
    rintro e w2 ⟨rfl, b2⟩
    have D2 := Lib.hid (bT D1.out b2)
    clear b2 E2 D1
    go_wp2
    go_ret
    exact ⟨rfl, D2.out⟩
  · rw [B_no (p := TrR vars (bareC cs) ts) (fun g => c2 g.2.1)]
    rw [B_no c2] at E1
    clear hz ht hwf hs hn c2 CA
    generalize cs.length = n at *
    generalize ts.length = m at *
    go_enter Try.func29, Try.ntmps29
    go_wp2_with fail
    refine E1.out.mono ?_
    rintro e w1 ⟨rfl, b1⟩
    have D1 := Lib.hid (bT B0.out b1)
    clear b1 E1
    go_wp2
    go_ret
    exact ⟨rfl, D1.out⟩

/-- Storing what lies there. -/
theorem put_same (w : World) (h : w.heap.size = w.heap.size) : ∀ W, W = w.alloc (.cells Try.zeroCells59 59) → Sem.run Try.prog (storeCells ⟨w.heap.size, 0, none⟩ Try.zeroCells59.toList) W = .ok () W := by
  rintro W rfl
  have hb : (w.alloc (.cells Try.zeroCells59 59)).heap[w.heap.size]? = some (.cells Try.zeroCells59 59) := new_at _ _
  have hone : ∀ v ∈ Try.zeroCells59.toList, v.oneCell' = true := by
    have : (Try.zeroCells59.toList.all fun v => v.oneCell') = true := by kernel_rfl
    exact fun v hv => List.all_eq_true.1 this v hv
  have key : ∀ (vs : List Value) (o : Nat) (W : World) (us : Array Value), W.heap[w.heap.size]? = some (.cells us 59) → (∀ k, k < vs.length → us[o + k]? = vs[k]?) → W.setCells w.heap.size o vs = W := by
    intro vs
    induction vs with
    | nil => intro o W us _ _; rfl
    | cons v r ih =>
      intro o W us h1 h2
      have e0 := h2 0 (by simp)
      simp only [Nat.add_zero, List.getElem?_cons_zero] at e0
      have e1 : W.setCell ⟨w.heap.size, o, none⟩ v = W := by
        have hs : us.setIfInBounds o v = us := by
          apply Array.ext
          · simp
          · intro i a1 a2
            simp only [Array.size_setIfInBounds] at a1
            rw [Array.getElem_setIfInBounds a1]
            by_cases hi : o = i
            · subst hi
              rw [if_pos rfl]
              rw [Array.getElem?_eq_getElem a2] at e0
              exact (Option.some.inj e0).symm
            · rw [if_neg hi]
        have hlt := (Array.getElem?_eq_some_iff.1 h1)
        obtain ⟨hl, hg⟩ := hlt
        have hh : (W.setCell ⟨w.heap.size, o, none⟩ v).heap = W.heap := by
          apply Array.ext_getElem?
          intro i
          by_cases hi : i = w.heap.size
          · subst hi
            rw [heap_setCell_same W _ o us 59 v h1, hs, h1]
          · exact heap_setCell_other W ⟨w.heap.size, o, none⟩ i v hi
        have : ∀ (A : World) (h : Array Obj), h = A.heap → { A with heap := h } = A := fun A h e => by subst e; rfl
        exact this W _ hh
      rw [World.setCells, e1]
      exact ih (o + 1) W us h1 (fun k hk => by
        have := h2 (k + 1) (by simp; omega)
        rw [show o + 1 + k = o + (k + 1) by omega, this]; simp)
  generalize w.alloc (.cells Try.zeroCells59 59) = W1 at *
  generalize w.heap.size = b at *
  have hr := run_storeCells_cells (P := Try.prog) b 0 Try.zeroCells59.toList 0 W1 (fun j hj => by simp at hj; simp [World.cell?, hb, hj]) (fun j hj => by simp [World.frozen?, hb]) hone
  rw [hr, key Try.zeroCells59.toList (0 + 0) _ Try.zeroCells59 hb (fun k hk => by simp)]

set_option maxRecDepth 100000 in
set_option maxHeartbeats 2000000 in
/-- impl.TrailRight. -/
theorem itr_any (vars : Int) (sl : Option Addr) (cap : Nat) (cs : List LCl) (sl2 : Option Addr) (cap2 : Nat) (ts : List Int) (w : World) (hn : cs.length ≤ maxLen) (hm : ts.length ≤ maxLen) (hz : Cls w sl cs) (ht : Ints w sl2 ts) :
    Calls Try.prog 12 #[CV vars sl cs.length cap, .slice sl2 ts.length cap2] w fun e w' => e = .returned (.bool (B (TrR vars (bareC cs) ts))) ∧ Below w.heap.size w w' := by
  have CA := Lib.hid (CnfAt.new w vars sl cs.length cap)
  have B0 := Lib.hid (bA0 w (.cells #[.int .i64 vars, .slice sl cs.length cap] 25))
  have hw0 : (w.alloc (.cells #[.int .i64 vars, .slice sl cs.length cap] 25)).heap.size = w.heap.size + 1 := by simp
  have PS := put_same (w.alloc (.cells #[.int .i64 vars, .slice sl cs.length cap] 25)) rfl _ rfl
  rw [hw0] at PS
  have VA : Hid (VAt ((w.alloc (.cells #[.int .i64 vars, .slice sl cs.length cap] 25)).alloc (.cells Try.zeroCells59 59)) (w.heap.size + 1) []) := by
    have := new_at (w.alloc (.cells #[.int .i64 vars, .slice sl cs.length cap] 25)) (.cells Try.zeroCells59 59)
    rw [hw0] at this
    show _ = _
    rw [this, vArr_nil]
  have B1 := Lib.hid (bA B0.out (.cells Try.zeroCells59 59))
  have CB := Lib.hid (CA.out.below (bA0 _ (.cells Try.zeroCells59 59)))
  clear CA B0
  have hln := hn
  have hlm := hm
  unfold maxLen at hln hlm
  by_cases c1 : 400 < ts.length
  · rw [B_no (p := TrR vars (bareC cs) ts) (fun g => by have := g.1; omega)]
    have c1' : ¬ (ts.length : Int) ≤ 400 := by omega
    clear hz ht hn CB VA hm
    generalize cs.length = n at *
    generalize ts.length = m at *
    go_enter Try.func12, Try.ntmps12
    go_wp2
    go_ret
    exact ⟨rfl, B1.out⟩
  have c1' : (ts.length : Int) ≤ 400 := by omega
  have E1 := Lib.hid (icr_any vars sl cap cs _ hn (hz.below B1.out))
  by_cases c2 : CnfR vars (bareC cs)
  · have E2 : Hid (∀ W, Below w.heap.size w W → VAt W (w.heap.size + 1) [] → Calls Try.prog 39 #[.pointer (some ⟨w.heap.size + 1, 0, none⟩), .slice sl2 ts.length cap2, .int .i64 vars] W fun e w' => e = .returned (.bool (B (SpTo vars ts ts.length))) ∧ Below w.heap.size W w') := fun W hW hv => by
      refine (take_any (w.heap.size + 1) vars sl2 cap2 ts W hv.blk c2.1.1 c2.1.2 hm ?_).mono ?_
      · rcases ht with e | ⟨c, o, e, hi⟩
        · exact .inl e
        · exact .inr ⟨c, o, e, hi.below hW, by have := hi.1; omega⟩
      · rintro e w' ⟨rfl, _, hb, _⟩
        exact ⟨rfl, hb.mono (by omega)⟩
    rw [B_iff (show TrR vars (bareC cs) ts ↔ SpTo vars ts ts.length from ⟨fun g => g.2.2, fun g => ⟨by omega, c2, g⟩⟩)]
    rw [B_yes c2] at E1
    clear hz ht hn c2 hm
    generalize B (SpTo vars ts ts.length) = r at *
    generalize cs.length = n at *
    generalize ts.length = m at *
    go_enter Try.func12, Try.ntmps12
    go_wp2_with fail
    refine E1.out.mono ?_
    rintro e w1 ⟨rfl, b1⟩
    obtain ⟨t0, t1⟩ := (CB.out.below b1).cells
    have tl := (CB.out.below b1).lt
    have D1 := Lib.hid (bT B1.out b1)
    have V1 := Lib.hid (VA.out.below b1)
    clear b1 E1 CB VA
    go_wp2_with fail
    refine (E2.out _ D1.out V1.out).mono ?_
    rintro e w2 ⟨rfl, b2⟩
    have D2 := Lib.hid (D1.out.trans b2)
    clear b2 E2 D1
    go_wp2
    go_ret
    exact ⟨rfl, D2.out⟩
  · rw [B_no (p := TrR vars (bareC cs) ts) (fun g => c2 g.2.1)]
    rw [B_no c2] at E1
    clear hz ht hn c2 CB VA hm
    generalize cs.length = n at *
    generalize ts.length = m at *
    go_enter Try.func12, Try.ntmps12
    go_wp2_with fail
    refine E1.out.mono ?_
    rintro e w1 ⟨rfl, b1⟩
    have D1 := Lib.hid (bT B1.out b1)
    clear b1 E1
    go_wp2
    go_ret
    exact ⟨rfl, D1.out⟩

end Go.Proofs.Ytendehejodgljaa
