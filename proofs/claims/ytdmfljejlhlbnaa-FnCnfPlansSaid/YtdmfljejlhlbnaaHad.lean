/-
  A ROW OF PAIRS' ENDS, GATHERED AND SORTED: the thinking, and how the row lies behind the sort.
  THE KEYS OF THE MAP OF KINDS, SORTED: the walk.
  WHEN PAIRS ARE RIGHT, as the program asks it.
-/
import Derived.Test.YtdmfljejlhlbnaaHac
import Derived.Sort.OwnSorted
import Derived.Laws.StructEq
namespace Go.Proofs.Ytdmfljejlhlbnaa
open Go.RowKit Go.Maps
set_option linter.unusedVariables false

def encE (x : Int × Int) : List Value := [.int .i64 x.1, .int .i64 x.2]
def enCells (ks : List (Int × Int)) : List Value := ks.flatMap encE
theorem enCells_len (ks : List (Int × Int)) : (enCells ks).length = ks.length * 2 := by
  induction ks with
  | nil => rfl
  | cons a r ih => rw [show enCells (a :: r) = encE a ++ enCells r from rfl, List.length_append, ih]; simp [encE]; omega
theorem enCells_add (ks : List (Int × Int)) (x : Int × Int) : enCells (ks ++ [x]) = enCells ks ++ [.int .i64 x.1, .int .i64 x.2] := by simp [enCells, encE]
theorem enCells_at (ks : List (Int × Int)) (i : Nat) (h : i < ks.length) : (enCells ks)[i * 2]? = some (.int .i64 ks[i].1) ∧ (enCells ks)[i * 2 + 1]? = some (.int .i64 ks[i].2) := by
  induction ks generalizing i with
  | nil => simp at h
  | cons a r ih =>
    cases i with
    | zero => simp [enCells, encE]
    | succ i =>
      have := ih i (by simpa using h)
      rw [show (i + 1) * 2 = i * 2 + 2 by omega, show i * 2 + 2 + 1 = (i * 2 + 1) + 2 by omega]
      simpa [enCells, encE] using this
open Go.Sort in
theorem flat_toList (ks : List (Int × Int)) : (flatK encE 2 ks.toArray).toList = enCells ks := by
  apply List.ext_getElem?
  intro t
  by_cases h : t < ks.length * 2
  · have hq : t / 2 < ks.length := by omega
    have h1 := enCells_at ks (t / 2) hq
    have hg : (flatK encE 2 ks.toArray)[t]? = some ((encE (ks.toArray)[t / 2]!)[t % 2]!) := by
      have hs : t < (flatK encE 2 ks.toArray).size := by simpa using h
      rw [Array.getElem?_eq_getElem hs, ← getElem!_pos _ t hs, get_flatK _ _ _ _ (by simpa using h)]
    rw [Array.getElem?_toList, hg]
    have he : (ks.toArray)[t / 2]! = ks[t / 2] := by simp [hq]
    rw [he]
    rcases Nat.mod_two_eq_zero_or_one t with e | e
    · rw [show (enCells ks)[t]? = (enCells ks)[t / 2 * 2]? by congr 1; omega, h1.1, e]; rfl
    · rw [show (enCells ks)[t]? = (enCells ks)[t / 2 * 2 + 1]? by congr 1; omega, h1.2, e]; rfl
  · rw [List.getElem?_eq_none (by simp; omega), List.getElem?_eq_none (by rw [enCells_len]; omega)]
open Go.Sort in
theorem holdsE {B : Nat} {w : World} {g n cap : Nat} {ks : List (Int × Int)} (h : w.ownsRow B 152 2 (.slice (some ⟨g, 0, none⟩) n cap) n (enCells ks)) (hn : n = ks.length) : HoldsK encE 2 w g 0 ks.toArray := by
  subst hn
  intro j hj
  have hj' : j < ks.length * 2 := by simpa using hj
  have hc := h.cellAt j hj'
  rw [← flat_toList] at hc
  rw [Nat.zero_add, hc]
  refine ⟨?_, ?_⟩
  · rw [Array.getElem?_toList, Array.getElem?_eq_getElem hj, ← getElem!_pos _ j hj]; rfl
  · rcases h.2 with ⟨h0, _⟩ | ⟨g', cap', cur, hv, _, hb, _⟩
    · cases h0
    · cases hv; simp [World.frozen?, hb]
open Go.Sort in
theorem sorted_own {B : Nat} {w : World} {g cap m : Nat} {os : Array Obj} {ks ks' : List (Int × Int)} (h : w.ownsRow B 152 2 (.slice (some ⟨g, 0, none⟩) ks.length cap) ks.length (enCells ks)) (hl : ks'.length = ks.length) :
    (sortWorldK encE 2 w g 0 m ks'.toArray os).ownsRow B 152 2 (.slice (some ⟨g, 0, none⟩) ks.length cap) ks.length (enCells ks') ∧ w.grownBy (sortWorldK encE 2 w g 0 m ks'.toArray os) (some g) := by
  rcases h.2 with ⟨h0, _⟩ | ⟨g', cap', cur, hv, hbase, hb, h1, h2, h3, h4⟩
  · cases h0
  · cases hv
    have hg : g < w.heap.size := (Array.getElem?_eq_some_iff.1 hb).1
    have hheap : (sortWorldK encE 2 w g 0 m ks'.toArray os).heap[g]? = some (.cells (putCells id 0 (flatK encE 2 ks'.toArray) cur) 152 (0, 0)) := by
      unfold sortWorldK putRowK
      rw [heap_grow_old _ _ (by simpa using hg)]
      simp [putRow, mapBlock, Sort.ahead, Array.getElem?_modify, hb, onCells]
    refine ⟨⟨by rw [enCells_len, hl], .inr ⟨g, cap, _, rfl, hbase, hheap, h1, h2, by simp [putCells, h3], ?_⟩⟩, ⟨rfl, rfl, rfl, by simp [sortWorldK, putRowK], fun k hk hne => ?_⟩⟩
    · have hs : (flatK encE 2 ks'.toArray).size = ks.length * 2 := by simp [hl]
      rw [← flat_toList]
      apply List.ext_getElem?
      intro j
      by_cases hj : j < ks.length * 2
      · rw [List.getElem?_take_of_lt hj, Array.getElem?_toList, Array.getElem?_toList]
        have hjf : j < (flatK encE 2 ks'.toArray).size := by omega
        rw [Array.getElem?_eq_getElem hjf, ← getElem!_pos _ j hjf]
        simp [putCells, hl, hj, show j < cur.size by omega]
      · rw [List.getElem?_take_eq_none (by omega), List.getElem?_eq_none (by simp; omega)]
    · unfold sortWorldK putRowK
      rw [heap_grow_old _ _ (by simpa using hk)]
      have : g ≠ k := fun e => hne (by rw [e])
      simp [putRow, mapBlock, Sort.ahead, Array.getElem?_modify, this]
open Go.Sort in
/-- Sorted, and no two the same: rising. -/
theorem rising_of {d d' : Array (Int × Int)} (hp : PermIn 0 d.size d d') (hs : SortedIn (ltOf cmpE) 0 d.size d') (hn : d.toList.Nodup) : d'.toList.Pairwise Lt2 ∧ d'.toList.Perm d.toList := by
  obtain ⟨h1, h2, h3⟩ := hp
  have hperm : d'.toList.Perm d.toList := by
    have e1 : d'.extract 0 d.size = d' := by rw [← h1]; simp
    have e2 : d.extract 0 d.size = d := by simp
    rwa [e1, e2] at h3
  refine ⟨?_, hperm⟩
  have hnd : d'.toList.Nodup := hperm.nodup_iff.2 hn
  rw [List.pairwise_iff_getElem]
  intro i j hi hj hij
  have hi' : i < d'.size := by simpa using hi
  have hj' : j < d'.size := by simpa using hj
  have hne : d'.toList[i] ≠ d'.toList[j] := by
    have := List.pairwise_iff_getElem.1 hnd i j hi hj hij
    exact this
  have hlt := hs i j (Nat.zero_le _) hij (by omega)
  rw [getElem!_pos d' j hj', getElem!_pos d' i hi'] at hlt
  have hno : ¬ Lt2 d'[j] d'[i] := fun e => by have := (ltOf_cmpE _ _).2 e; rw [hlt] at this; cases this
  simp only [Array.getElem_toList] at hne ⊢
  rcases Lt2.tri hne with h | h
  · exact h
  · exact absurd h hno

/-- The keys met so far. -/
structure Coll (D : DataW Unit) (left : Lit → Bool) (ks : List (Int × Int)) : Prop where
  nd : ks.Nodup
  wf : ∀ x ∈ ks, wfI x.1 ∧ wfI x.2
  mem : ∀ x, wfI x.1 ∧ wfI x.2 → (x ∈ ks ↔ Maps.has D (kOf x) = true ∧ left (kOf x) = false)
theorem Coll.start (D : DataW Unit) : Coll D (Maps.has D) [] := ⟨List.nodup_nil, fun x hx => absurd hx (by simp), fun x hx => (by simp)⟩
theorem Coll.step {D : DataW Unit} {left : Lit → Bool} {ks : List (Int × Int)} (h : Coll D left ks) {x : Int × Int} (hx : wfI x.1 ∧ wfI x.2) (hl : left (kOf x) = true) (hh : Maps.has D (kOf x) = true) : Coll D (fun z => left z && !z.sameKey (kOf x)) (ks ++ [x]) := by
  have hnx : x ∉ ks := fun hm => by have := ((h.mem x hx).1 hm).2; rw [hl] at this; cases this
  refine ⟨?_, fun y hy => ?_, fun y hy => ?_⟩
  · rw [List.nodup_append]
    refine ⟨h.nd, by simp, fun a ha b hb => ?_⟩
    simp at hb; subst hb
    exact fun e => hnx (e ▸ ha)
  · rcases List.mem_append.1 hy with hy | hy
    · exact h.wf y hy
    · simp at hy; rw [hy]; exact hx
  · by_cases e : y = x
    · subst e
      simp [hh, WideAt.sameKey_self (kOf_key y hy)]
    · have ne : kOf y ≠ kOf x := fun e' => e (kOf_inj hy hx e')
      rw [List.mem_append, h.mem y hy, sameKey_ne ne]
      simp [e]
end Go.Proofs.Ytdmfljejlhlbnaa
namespace Go.Proofs.Ytdmfljejlhlbnaa
open Go.RowKit Go.Maps
set_option linter.unusedVariables false

theorem info63 : (Try.prog.info? 152).map (fun i => (i.zero, i.size, i.bytes)) = some (some (.agg #[.int .i64 0, .int .i64 0]), 2, 16) := by kernel_rfl
theorem two_new2 (w : World) (o : Obj) (a b : Value) (t : TypeId) : ∀ (j : Nat) (u : Value), [a, b][j]? = some u → ((w.alloc o).alloc (.cells #[a, b] t)).cell? ((⟨w.heap.size + 1, 0, none⟩ : Addr).add j) = some u := by
  have := cell_two_new (w.alloc o) a b t
  rwa [show (w.alloc o).heap.size = w.heap.size + 1 by simp] at this
theorem size_own {w : World} {b n : Nat} {D : DataW Unit} (h : w.ownsMap Try.prog 152 (plainElem (H := Unit) Try.prog 2) b n D) : Maps.size D ≤ n := by
  obtain ⟨es, clock, _, F, hn, rfl⟩ := h
  show List.length _ ≤ n
  rw [length_sorted]
  simpa using hn

set_option maxRecDepth 100000 in
set_option maxHeartbeats 2000000 in
theorem se_any (b n : Nat) (D : DataW Unit) (w : World) (hn : n ≤ 1000) (hm : w.ownsMap Try.prog 152 (plainElem (H := Unit) Try.prog 2) b n D) :
    Calls Try.prog 152 #[.map (some b)] w fun e w' => ∃ (v : Value) (ks : List (Int × Int)), e = .returned v ∧ w'.ownsRow w.heap.size 152 2 v ks.length (enCells ks) ∧ ks.Pairwise Lt2 ∧ (∀ x ∈ ks, wfI x.1 ∧ wfI x.2) ∧ (∀ x, wfI x.1 ∧ wfI x.2 → (x ∈ ks ↔ Maps.has D (kOf x) = true)) ∧ Below w.heap.size w w' := by
  obtain ⟨i3, hi3, hd0, hd1, hd2⟩ := info_parts info63
  have HM := Lib.hid hm
  have hsz := size_own hm
  have hbl := hm.lt
  obtain ⟨w1, hrun, own1, grow1⟩ := run_make_own (P := Try.prog) w w.heap.size 179 152 i3 (.agg #[.int .i64 0, .int .i64 0]) 2 Try.underlying179 hi3 hd0 hd1 .i64 .i64 (Maps.size D) (by rw [hd2]; omega) (by unfold maxLen; omega) (Nat.le_refl _)
  have HM1 := Lib.hid (hm.kept grow1 (by simp))
  have O1 := Lib.hid own1
  have G1 := Lib.hid grow1
  clear hm own1 grow1
  go_enter Try.func152, Try.ntmps152
  go_wp2_with (first
    | (at_len; refine wpList_len_own _ rfl _ 149 rfl 152 2 Try.underlying149 _ b n D rfl HM.out ?_)
    | (at_range; refine wpList_range_own _ rfl _ 149 rfl 152 2 law63 Try.underlying149 _ b n D rfl HM1.out ?_; intro w0 hrg0 hg0 hs0)
    | go_in)
  go_frame
  have HS0 := Lib.hid (And.intro (O1.out.kept hg0 (.inr (by simp [Value.ownBlock]))) (((Below.refl w.heap.size w).grown G1.out (Nat.le_refl _) (fun j hj => by cases hj)).grown hg0 G1.out.size (fun j hj => by cases hj)))
  have R0 := Lib.hid hrg0
  have hr1 := G1.out.size
  clear hrg0 hg0 hs0 HM HM1 O1 hrun
  generalize w1.heap.size = r at *
  go_loopw [3] (fun v wr => ∃ (left : Lit → Bool) (cnt : Nat) (ks : List (Int × Int)) (g cap : Nat), v = .slice (some ⟨g, 0, none⟩) ks.length cap ∧ ks.length + cnt ≤ Maps.size D ∧ Hid (wr.ranges Try.prog 152 (plainElem (H := Unit) Try.prog 2) b r n D left cnt) ∧ Hid (wr.ownsRow w.heap.size 152 2 (.slice (some ⟨g, 0, none⟩) ks.length cap) ks.length (enCells ks)) ∧ Hid (Coll D left ks) ∧ Hid (Below w.heap.size w wr)) (fun _ wr => wr.rangeLeft b r)
  case atStart => exact ⟨_, _, [], w.heap.size, Maps.size D, rfl, by simp, R0, HS0.out.1, Coll.start D, HS0.out.2⟩
  case round =>
    obtain ⟨left, cnt, ks, g, cap, rfl, hc, RG, OW, CO, BE⟩ := hrel
    have hrne := row_ne_iter OW.out RG.out
    have hbne := row_ne_low OW.out hbl
    have hgb := OW.out.lt g rfl
    have hbs := BE.out.size
    generalize hq : ks.length = q at *
    have HQ := Lib.hid hq
    clear hq
    go_wp2_with (first | (at_next; refine wpList_next_ranges _ rfl _ rfl 152 law63 _ (fun x : Int × Int => EV x) (Value.int .i64) (fun key kl h => by obtain ⟨x, e, _⟩ := key_inv key kl h; exact ⟨x, e⟩) (fun v y hv => by obtain ⟨c, rfl, _⟩ := plainElem_int_inv Try.underlying2 hv; exact ⟨c, rfl⟩) b r n D left cnt rfl RG.out ?_ ?_) | go_in)
    · intro hc0 hl0
      have hcon := Lib.hid (Try.slices_SortFunc 2 Try.isAgg152 Try.sizeOf152 encE (fun _ => rfl) (fun x v hv => by simp [encE] at hv; rcases hv with rfl | rfl <;> rfl) cmpE swoE 155 #[] g 0 cap ks.toArray wr (enters_of Try.func155 (by kernel_rfl) rfl) (cmpLays g 0 _ wr) (holdsE OW.out HQ.out.symm) hgb.2 (by simp [HQ.out]; omega))
      have EC := Lib.hid (fun (x : Int × Int) (hx : wfI x.1 ∧ wfI x.2) => show x ∈ ks ↔ Maps.has D (kOf x) = true by rw [CO.out.mem x hx, hl0 (kOf x)]; simp)
      rw [show ks.toArray.size = q by simp [HQ.out]] at hcon
      clear hl0 RG
      go_wp2_with fail
      refine hcon.out.mono ?_
      rintro e w7 ⟨rfl, d', m7, os, hp, hs, rfl⟩
      have hp2 : Go.Sort.PermIn 0 ks.toArray.size ks.toArray d' := by rw [show ks.toArray.size = q by simp [HQ.out]]; exact hp
      have hs2 : Go.Sort.SortedIn (ltOf cmpE) 0 ks.toArray.size d' := by rw [show ks.toArray.size = q by simp [HQ.out]]; exact hs
      obtain ⟨hpw, hpm⟩ := rising_of hp2 hs2 (by simpa using CO.out.nd)
      have hl7 : d'.toList.length = ks.length := by have := hpm.length_eq; simpa using this
      have OWk := OW.out
      rw [← HQ.out] at OWk
      obtain ⟨own7, grow7⟩ := sorted_own (m := m7) (os := os) OWk hl7
      rw [show d'.toList.toArray = d' by simp] at own7 grow7
      have P : Hid (∃ (v : Value) (ks : List (Int × Int)), (.slice (some ⟨g, 0, none⟩) q cap) = v ∧ (sortWorldK encE 2 wr g 0 m7 d' os).ownsRow w.heap.size 152 2 v ks.length (enCells ks) ∧ ks.Pairwise Lt2 ∧ (∀ x ∈ ks, wfI x.1 ∧ wfI x.2) ∧ (∀ x, wfI x.1 ∧ wfI x.2 → (x ∈ ks ↔ Maps.has D (kOf x) = true)) ∧ Below w.heap.size w (sortWorldK encE 2 wr g 0 m7 d' os)) := by
        refine ⟨_, d'.toList, rfl, ?_, hpw, fun x hx => ?_, fun x hx => ?_, ?_⟩
        · rw [hl7, ← HQ.out]; exact own7
        · exact CO.out.wf x (by have := hpm.mem_iff.1 hx; simpa using this)
        · rw [hpm.mem_iff]; simpa using EC.out x hx
        · exact BE.out.grown grow7 hbs (fun j hj => by cases hj; exact hgb.1)
      clear own7 grow7 hp hs hp2 hs2 hpw hpm hcon OWk OW CO EC
      generalize sortWorldK encE 2 wr g 0 m7 d' os = w8 at *
      go_wp2
      go_ret
      obtain ⟨v, ks, e, h⟩ := P.out
      exact ⟨v, ks, by rw [← e]; rfl, h⟩
    · intro x1 x2 c kl yd yp w2 cnt2 hkey hlk hv hat hrg2 hlt hg2 hs2 hen
      obtain ⟨x', ex, wx⟩ := key_inv _ _ hkey
      have wx' : wfI x1 ∧ wfI x2 := by
        simp only [EV, Value.agg.injEq, Array.mk.injEq, List.cons.injEq, Value.int.injEq, true_and, and_true] at ex
        rw [ex.1, ex.2]; exact wx
      obtain rfl : kl = kOf (x1, x2) := by have := key_is (x1, x2) wx'; rw [hkey] at this; exact Option.some.inj this
      have C2 := Lib.hid (CO.out.step (x := (x1, x2)) wx' hlk (has_true_of_atKey hat))
      have O2 := Lib.hid (OW.out.kept hg2 (.inr (fun e => hrne e.symm)))
      have B2 := Lib.hid (BE.out.grown hg2 hbs (fun j hj => by cases hj; omega))
      have R2 := Lib.hid hrg2
      have hs2' := hg2.size
      have EV9 := Lib.hid (show enCells ks ++ [.int .i64 x1, .int .i64 x2] = enCells (ks ++ [(x1, x2)]) from (enCells_add ks (x1, x2)).symm)
      have RL := Lib.hid (show wr.rangeLeft b r = cnt from RG.out.left_eq)
      dsimp only [EV] at hen
      clear hkey hlk hv hat hrg2 hg2 hs2 ex wx wx' CO OW BE RG x'
      go_wp2_with (first | (at_builtin; refine wpList_append_lies _ rfl (.tmp 14) (.tmp 16) 179 rfl w.heap.size 152 i3 (.agg #[.int .i64 0, .int .i64 0]) 2 16 Try.underlying179 hi3 hd0 hd1 hd2 rfl (by decide) _ _ _ rfl ((O2.out.alloc _).alloc _) ⟨w2.heap.size + 1, 0, none⟩ 1 1 [.int .i64 x1, .int .i64 x2] (by simp [Act.eval]) rfl (two_new2 _ _ _ _ _) (by intro u hu; simp at hu; rcases hu with rfl | rfl <;> rfl) (by decide) (by unfold maxLen; omega) (by omega) (by simp; omega) (w2.heap.size + 2) (by simp) ?_) | go_in)
      intro g9 cap9 w9 own9 grow9 hg9 hlt9
      have RA := Lib.hid ((R2.out.alloc (.cells #[.int .i64 x1, .int .i64 x2] 152)).alloc (.cells #[.int .i64 x1, .int .i64 x2] 152))
      have R9 := Lib.hid (RA.out.kept grow9 hbne hrne)
      have B9 := Lib.hid ((bA (bA B2.out (.cells #[.int .i64 x1, .int .i64 x2] 152)) (.cells #[.int .i64 x1, .int .i64 x2] 152)).grown grow9 (by simp; omega) (fun j hj => by cases hj; exact hgb.1))
      rw [EV9.out] at own9
      have N9 : Hid (w9.ownsRow w.heap.size 152 2 (.slice (some ⟨g9, 0, none⟩) (ks ++ [(x1, x2)]).length cap9) (ks ++ [(x1, x2)]).length (enCells (ks ++ [(x1, x2)]))) := by
        show World.ownsRow _ _ _ _ _ _ _
        rw [List.length_append, HQ.out]; exact own9
      have LQ := Lib.hid (show (ks ++ [(x1, x2)]).length = q + 1 by rw [List.length_append, HQ.out]; rfl)
      clear own9 grow9 hg9 hlt9 RA R2 O2 B2 hen
      go_wp2_with fail
      go_roundw
      case rel => exact ⟨_, cnt2, ks ++ [(x1, x2)], g9, cap9, by rw [LQ.out], by rw [LQ.out]; omega, R9, N9, C2, B9⟩
      case measure => rw [R9.out.left_eq, RL.out]; exact hlt
end Go.Proofs.Ytdmfljejlhlbnaa
namespace Go.Proofs.Ytdmfljejlhlbnaa
open Go.RowKit Go.Maps
set_option linter.unusedVariables false

/-- Two rising lists of the same are one. -/
theorem rising_unique : ∀ {l m : List (Int × Int)}, l.Pairwise Lt2 → m.Pairwise Lt2 → (∀ x, x ∈ l ↔ x ∈ m) → l = m := by
  intro l
  induction l with
  | nil =>
    intro m _ _ h
    cases m with
    | nil => rfl
    | cons b r => exact absurd ((h b).2 (by simp)) (by simp)
  | cons a r ih =>
    intro m hl hm h
    cases m with
    | nil => exact absurd ((h a).1 (by simp)) (by simp)
    | cons b s =>
      obtain ⟨l1, l2⟩ := List.pairwise_cons.1 hl
      obtain ⟨m1, m2⟩ := List.pairwise_cons.1 hm
      have e : a = b := by
        rcases List.mem_cons.1 ((h a).1 (by simp)) with e | e
        · exact e
        · rcases List.mem_cons.1 ((h b).2 (by simp)) with e' | e'
          · exact e'.symm
          · exact absurd ((m1 a e).trans (l1 b e')) (Lt2.irr _)
      subst e
      congr 1
      refine ih l2 m2 (fun x => ?_)
      constructor
      · intro hx
        rcases List.mem_cons.1 ((h x).1 (by simp [hx])) with e | e
        · subst e; exact absurd (l1 x hx) (Lt2.irr _)
        · exact e
      · intro hx
        rcases List.mem_cons.1 ((h x).2 (by simp [hx])) with e | e
        · subst e; exact absurd (m1 x hx) (Lt2.irr _)
        · exact e
/-- The order is the pairs' own just if they stand in it. -/
theorem order_iff {ps : List LPr} {ks : List (Int × Int)} (hw : ∀ p ∈ ps, WfP p) (hk : ks.Pairwise Lt2) (hkw : ∀ x ∈ ks, wfI x.1 ∧ wfI x.2) (hm : ∀ x, wfI x.1 ∧ wfI x.2 → (x ∈ ks ↔ x ∈ ps.map ends)) : ps.map ends = ks ↔ PSort ps := by
  constructor
  · intro h; unfold PSort; rw [h]; exact hk
  · intro h
    refine rising_unique h hk (fun x => ?_)
    constructor
    · intro hx
      obtain ⟨p, hp, rfl⟩ := List.mem_map.1 hx
      exact (hm _ (hw p hp).1).2 hx
    · intro hx; exact (hm x (hkw x hx)).1 hx

set_option maxHeartbeats 1000000 in
theorem pr_any (p : LPr) (sl : Option Addr) (cap : Nat) (zs : List Int) (w : World) (hn : zs.length ≤ 1048576) (hz : Ints w sl zs) :
    Calls Try.prog 153 #[.agg #[.int .i64 p.1, .int .i64 p.2.1, .int .i64 p.2.2], .slice sl zs.length cap] w fun e w' => e = .returned (.bool (B (PrOK zs p))) ∧ Below w.heap.size w w' := by
  obtain ⟨a, b, q⟩ := p
  have HA : Hid (∀ x W, Below w.heap.size w W → Calls Try.prog 78 #[.slice sl zs.length cap, .int .i64 x] W fun e w' => e = .returned (.bool (B (x ∈ zs))) ∧ Below W.heap.size W w') := fun x W hW => has_any sl cap x zs W hn (hz.below hW)
  have NO : Hid (¬ (a < b ∧ (q = 1 ∨ q = 2)) → B (PrOK zs (a, b, q)) = false) := fun h => B_no (fun g => h ⟨g.1, g.2.1⟩)
  have YES : Hid ((a < b ∧ (q = 1 ∨ q = 2)) → B (PrOK zs (a, b, q)) = (B (a ∈ zs) && B (b ∈ zs))) := fun h => by
    by_cases h1 : a ∈ zs
    · rw [B_yes h1, Bool.true_and]
      exact B_iff ⟨fun g => g.2.2.2, fun g => ⟨h.1, h.2, h1, g⟩⟩
    · rw [B_no h1, Bool.false_and]
      exact B_no (fun g => h1 g.2.2.1)
  dsimp only
  clear hz hn
  generalize zs.length = n at *
  by_cases h1 : b ≤ a
  · have F := Lib.hid (NO.out (by omega))
    go_enter Try.func153, Try.ntmps153
    go_wp2
    go_ret
    exact ⟨by rw [F.out]; rfl, bA0 _ _⟩
  · by_cases h2 : q = 1 ∨ q = 2
    · have F := Lib.hid (YES.out ⟨by omega, h2⟩)
      have HAa := Lib.hid (HA.out a)
      have HAb := Lib.hid (HA.out b)
      have P := Lib.hid (bA0 w (.cells #[.int .i64 a, .int .i64 b, .int .i64 q] 112))
      have Q := Lib.hid (PAt3.new w a b q)
      cases hx : B (a ∈ zs) with
      | true =>
        rw [hx] at F HAa
        generalize B (b ∈ zs) = y at *
        rcases h2 with rfl | rfl
        · go_enter Try.func153, Try.ntmps153
          go_wp2_with fail
          refine (HAa.out _ P.out).mono ?_
          rintro e w1 ⟨rfl, b1⟩
          have D1 := Lib.hid (bT P.out b1)
          obtain ⟨ql, q0, q1, q2⟩ := (Q.out.below b1).cells
          clear b1
          go_wp2_with fail
          refine (HAb.out _ D1.out).mono ?_
          rintro e w2 ⟨rfl, b2⟩
          have D2 := Lib.hid (bT D1.out b2)
          clear b2
          go_wp2
          go_ret
          exact ⟨by rw [F.out]; cases y <;> rfl, D2.out⟩
        · go_enter Try.func153, Try.ntmps153
          go_wp2_with fail
          refine (HAa.out _ P.out).mono ?_
          rintro e w1 ⟨rfl, b1⟩
          have D1 := Lib.hid (bT P.out b1)
          obtain ⟨ql, q0, q1, q2⟩ := (Q.out.below b1).cells
          clear b1
          go_wp2_with fail
          refine (HAb.out _ D1.out).mono ?_
          rintro e w2 ⟨rfl, b2⟩
          have D2 := Lib.hid (bT D1.out b2)
          clear b2
          go_wp2
          go_ret
          exact ⟨by rw [F.out]; cases y <;> rfl, D2.out⟩
      | false =>
        rw [hx] at F HAa
        rcases h2 with rfl | rfl
        · go_enter Try.func153, Try.ntmps153
          go_wp2_with fail
          refine (HAa.out _ P.out).mono ?_
          rintro e w1 ⟨rfl, b1⟩
          have D1 := Lib.hid (bT P.out b1)
          clear b1
          go_wp2
          go_ret
          exact ⟨by rw [F.out]; rfl, D1.out⟩
        · go_enter Try.func153, Try.ntmps153
          go_wp2_with fail
          refine (HAa.out _ P.out).mono ?_
          rintro e w1 ⟨rfl, b1⟩
          have D1 := Lib.hid (bT P.out b1)
          clear b1
          go_wp2
          go_ret
          exact ⟨by rw [F.out]; rfl, D1.out⟩
    · have F := Lib.hid (NO.out (fun h => h2 h.2))
      have n1 : (q != 1) = true := by simp; omega
      have n2 : (q != 2) = true := by simp; omega
      go_enter Try.func153, Try.ntmps153
      go_wp2
      go_ret
      exact ⟨by rw [F.out]; rfl, bA0 _ _⟩

theorem neq63 (a b c d : Int) (w : World) : Sem.run Try.prog (binOp .neq 152 (.agg #[.int .i64 a, .int .i64 b]) (.agg #[.int .i64 c, .int .i64 d])) w = .ok (.bool (!(a == c && b == d))) w := by
  have u2 := Try.underlying2
  have a2 := Try.isAgg2
  have z2 := Try.sizeOf2
  have hS : Try.prog.underlying 152 = some (.struct (Try.prog.fieldsOf 152)) := by kernel_rfl
  have hp : Try.prog.stoodInHeld 152 = false := by kernel_rfl
  rw [run_neq_struct, show (10000 : Nat) = 9999 + 1 from rfl, run_equalIn_agg w 9999 152 _ _ hS hp]
  simp only [Program.fieldsOf, Try.underlying152]
  go_simp
  by_cases h1 : a = c <;> by_cases h2 : b = d <;> simp [h1, h2]
/-- Pairs that are right, and stand where they should. -/
def PairsOK (zs : List Int) (ps : List LPr) : Prop := (∀ p ∈ ps, PrOK zs p) ∧ PSort ps
/-- The first k pairs stand in the order, and are right. -/
def PTo (zs : List Int) (ps : List LPr) (ks : List (Int × Int)) (k : Nat) : Prop := ∀ i (h : i < ps.length) (h2 : i < ks.length), i < k → ends ps[i] = ks[i] ∧ PrOK zs ps[i]

set_option maxRecDepth 100000 in
set_option maxHeartbeats 2000000 in
theorem psr_any (sl : Option Addr) (cap : Nat) (sl2 : Option Addr) (cap2 : Nat) (ps : List LPr) (zs : List Int) (w : World) (hn : ps.length ≤ 1000) (hm : zs.length ≤ 1048576) (hz : Prs w sl ps) (hi : Ints w sl2 zs) (hw : ∀ p ∈ ps, WfP p) :
    Calls Try.prog 148 #[.slice sl ps.length cap, .slice sl2 zs.length cap2] w fun e w' => e = .returned (.bool (B (PairsOK zs ps))) ∧ Below w.heap.size w w' := by
  have KS := Lib.hid (ks_any sl cap ps w hn hz hw)
  have PR : Hid (∀ p W, Below w.heap.size w W → Calls Try.prog 153 #[.agg #[.int .i64 p.1, .int .i64 p.2.1, .int .i64 p.2.2], .slice sl2 zs.length cap2] W fun e w' => e = .returned (.bool (B (PrOK zs p))) ∧ Below W.heap.size W w') := fun p W hW => pr_any p sl2 cap2 zs W hm (hi.below hW)
  have HZ := Lib.hid hz
  have HW := Lib.hid hw
  clear hz hi hw
  generalize hN : ps.length = n at *
  have HN := Lib.hid hN
  clear hN
  generalize zs.length = nz at *
  go_enter Try.func148, Try.ntmps148
  go_wp2_with fail
  refine KS.out.mono ?_
  rintro e w1 ⟨rfl, m1, b1⟩
  have B1 := Lib.hid b1
  have SE := Lib.hid (se_any w.heap.size n (Kd ps) w1 hn m1)
  clear b1 m1 KS
  go_wp2_with fail
  refine SE.out.mono ?_
  rintro e w2 ⟨v, ks, rfl, o2, hpw, hkw, hmem, b2⟩
  have B2 := Lib.hid (bT B1.out b2)
  have OI := Lib.hid (order_iff HW.out hpw hkw (fun x hx => (hmem x hx).trans (Kd_has ps HW.out x hx)))
  have O2 := Lib.hid o2
  obtain ⟨sl3, cap3, rfl⟩ := own_v o2
  clear SE b2 o2 hpw hkw hmem
  generalize hK : ks.length = m at *
  have HK := Lib.hid hK
  clear hK
  by_cases hmn : m = n
  · have hmn' : ((m : Int) != (n : Int)) = false := by simp [hmn]
    subst hmn
    go_wp2_with fail
    go_loopw [18] (fun i wr => ∃ k : Nat, i = .int .i64 k ∧ k ≤ m ∧ Hid (PTo zs ps ks k) ∧ Hid (Below w2.heap.size w2 wr)) (fun i _ => m - (intOf i).toNat)
    case atStart => exact ⟨0, rfl, Nat.zero_le _, fun i h h2 h3 => absurd h3 (Nat.not_lt_zero _), Below.refl _ _⟩
    case round =>
      obtain ⟨k, rfl, hk, H1, H2⟩ := hrel
      have hk0 : (0 : Int) ≤ (k : Int) := by omega
      by_cases h1 : k < m
      · have h1' : (k : Int) < (m : Int) := by omega
        have hlt : k < ps.length := by rw [HN.out]; exact h1
        have hlk : k < ks.length := by rw [HK.out]; exact h1
        obtain ⟨a, b, q, hp⟩ : ∃ a b q, ps[k] = (a, b, q) := ⟨_, _, _, rfl⟩
        obtain ⟨c, d, hkk⟩ : ∃ c d, ks[k] = (c, d) := ⟨_, _, rfl⟩
        have BR := Lib.hid (bT B2.out H2.out)
        obtain ⟨cp, op, rfl, HPA⟩ : ∃ cp op, sl = some ⟨cp, op, none⟩ ∧ PrAt w cp op ps := by
          rcases HZ.out with e | h
          · rw [e] at hlt; simp at hlt
          · exact h
        obtain ⟨hc0, hc1, hc2⟩ := (HPA.below BR.out).cell k hlt
        have hcl := (HPA.below BR.out).lt
        have OR := own_below O2.out H2.out
        obtain ⟨g3, rfl, r0, r1, rl⟩ : ∃ g3, sl3 = some ⟨g3, 0, none⟩ ∧ wr.cell? ⟨g3, k * 2, none⟩ = some (.int .i64 ks[k].1) ∧ wr.cell? ⟨g3, k * 2 + 1, none⟩ = some (.int .i64 ks[k].2) ∧ g3 < wr.heap.size := by
          rcases OR.2 with ⟨_, h0⟩ | ⟨g, cp3, cur, hv, hb3, hg3, _⟩
          · omega
          · cases hv
            have e := enCells_at ks k hlk
            exact ⟨g, rfl, by rw [OR.cellAt (k * 2) (by omega), e.1], by rw [OR.cellAt (k * 2 + 1) (by omega), e.2], (Array.getElem?_eq_some_iff.1 hg3).1⟩
        rw [hp] at hc0 hc1 hc2
        rw [hkk] at r0 r1
        dsimp only at hc0 hc1 hc2 r0 r1
        have E1 : Hid (∀ W, Calls Try.prog 145 #[.agg #[.int .i64 a, .int .i64 b, .int .i64 q]] W fun e w' => e = .returned (.agg #[.int .i64 a, .int .i64 b]) ∧ Below W.heap.size W w') := fun W => en_any (a, b, q) W
        have BW := Lib.hid (bA BR.out (.cells #[.int .i64 a, .int .i64 b, .int .i64 q] 112))
        have BX := Lib.hid (bA H2.out (.cells #[.int .i64 a, .int .i64 b, .int .i64 q] 112))
        have PA := Lib.hid (PAt3.new wr a b q)
        have r0' := ((bA0 wr (.cells #[.int .i64 a, .int .i64 b, .int .i64 q] 112)).cell rl).trans r0
        have r1' := ((bA0 wr (.cells #[.int .i64 a, .int .i64 b, .int .i64 q] 112)).cell rl).trans r1
        have rl' : g3 < (wr.alloc (.cells #[.int .i64 a, .int .i64 b, .int .i64 q] 112)).heap.size := by simp; omega
        have hgt : Try.prog.eqGuardType Try.prog.depth 152 = false := by kernel_rfl
        have hnq := neq63 a b c d
        by_cases hac : a = c ∧ b = d
        · have hnb : (!(a == c && b == d)) = false := by simp [hac]
          by_cases hok : PrOK zs (a, b, q)
          · have HS : Hid (PTo zs ps ks (k + 1)) := fun i hi hi2 hik => by
              by_cases e : i = k
              · subst e; rw [hp, hkk]; exact ⟨Prod.ext hac.1 hac.2, hok⟩
              · exact H1.out i hi hi2 (by omega)
            have PRb := B_yes hok
            clear hp hkk hlt hlk HPA OR hac hok
            rw [hnb] at hnq
            go_wp2_with fail
            generalize wr.alloc (.cells #[.int .i64 a, .int .i64 b, .int .i64 q] 112) = w3 at *
            have KB : Hid (∀ W, Below w3.heap.size w3 W → wr.heap.size < W.heap.size ∧ g3 < W.heap.size ∧ W.cell? ⟨wr.heap.size, 0, none⟩ = some (.int .i64 a) ∧ W.cell? ⟨wr.heap.size, 1, none⟩ = some (.int .i64 b) ∧ W.cell? ⟨wr.heap.size, 2, none⟩ = some (.int .i64 q) ∧ W.cell? ⟨g3, k * 2, none⟩ = some (.int .i64 c) ∧ W.cell? ⟨g3, k * 2 + 1, none⟩ = some (.int .i64 d)) := fun W hW => by
              obtain ⟨k0, k1, k2, k3⟩ := PA.out.kept hW
              exact ⟨k0, Nat.lt_of_lt_of_le rl' hW.size, k1, k2, k3, (hW.cell rl').trans r0', (hW.cell rl').trans r1'⟩
            clear r0 r1 r0' r1' hc0 hc1 hc2
            refine wp_region_held_drew (S := fun W => wr.heap.size < W.heap.size ∧ g3 < W.heap.size ∧ W.cell? ⟨wr.heap.size, 0, none⟩ = some (.int .i64 a) ∧ W.cell? ⟨wr.heap.size, 1, none⟩ = some (.int .i64 b) ∧ W.cell? ⟨wr.heap.size, 2, none⟩ = some (.int .i64 q) ∧ W.cell? ⟨g3, k * 2, none⟩ = some (.int .i64 c) ∧ W.cell? ⟨g3, k * 2 + 1, none⟩ = some (.int .i64 d)) (by kernel_rfl) ?_ (fun hHeld => ?_)
            · exact KB.out _ (Below.refl _ _).drew
            refine wpAnyH_take (i := 0) (oi := _) (v := ?_) rfl (by kernel_rfl) (by kernel_rfl) (by kernel_rfl) (fun _ _ _ h => h) (Or.inl ⟨by rfl, ?_⟩) (by assumption) ?_
            rotate_left
            · first | (intro w hSw; (try dsimp only at hSw); go_simp; done) | (intro w hSw; (try dsimp only at hSw); go_simp; with_reducible rfl)
            try simp only [Act.put, List.setIfInBounds_toArray, List.set_cons_zero, List.set_cons_succ, List.getElem_toArray, List.getElem_cons_zero]
            refine wpAnyH_take (i := 2) (oi := _) (v := ?_) rfl (by kernel_rfl) (by kernel_rfl) (by kernel_rfl) (fun _ _ _ h => h) (Or.inl ⟨by rfl, ?_⟩) (by assumption) ?_
            rotate_left
            · first | (intro w hSw; (try dsimp only at hSw); go_simp; done) | (intro w hSw; (try dsimp only at hSw); go_simp; with_reducible rfl)
            try simp only [Act.put, List.setIfInBounds_toArray, List.set_cons_zero, List.set_cons_succ, List.getElem_toArray, List.getElem_cons_succ, List.getElem_cons_zero]
            refine wpAnyH_take (i := 3) (oi := _) (v := ?_) rfl (by kernel_rfl) (by kernel_rfl) (by kernel_rfl) (fun _ _ _ h => h) (Or.inl ⟨by rfl, ?_⟩) (by assumption) ?_
            rotate_left
            · first | (intro w hSw; (try dsimp only at hSw); go_simp; done) | (intro w hSw; (try dsimp only at hSw); go_simp; with_reducible rfl)
            try simp only [Act.put, List.setIfInBounds_toArray, List.set_cons_zero, List.set_cons_succ, List.getElem_toArray, List.getElem_cons_succ, List.getElem_cons_zero]
            refine wpAnyH_take (i := 4) (oi := _) (v := ?_) rfl (by kernel_rfl) (by kernel_rfl) (by kernel_rfl) (fun _ _ _ h => h) (Or.inl ⟨by rfl, ?_⟩) (by assumption) ?_
            rotate_left
            · first | (intro w hSw; (try dsimp only at hSw); go_simp; done) | (intro w hSw; (try dsimp only at hSw); go_simp; with_reducible rfl)
            try simp only [Act.put, List.setIfInBounds_toArray, List.set_cons_zero, List.set_cons_succ, List.getElem_toArray, List.getElem_cons_succ, List.getElem_cons_zero]
            refine wpAnyH_take (i := 5) (oi := _) (v := ?_) rfl (by kernel_rfl) (by kernel_rfl) (by kernel_rfl) (fun _ _ _ h => h) (Or.inl ⟨by rfl, ?_⟩) (by assumption) ?_
            rotate_left
            · first | (intro w hSw; (try dsimp only at hSw); go_simp; done) | (intro w hSw; (try dsimp only at hSw); go_simp; with_reducible rfl)
            try simp only [Act.put, List.setIfInBounds_toArray, List.set_cons_zero, List.set_cons_succ, List.getElem_toArray, List.getElem_cons_succ, List.getElem_cons_zero]
            refine wpAnyH_ready (rs := [1]) (by kernel_rfl) (by simp) ?_
            refine AllReadyH.cons rfl (fun K hK => ?_) AllReadyH.nil
            go_simp
            go_wp2_with (go_at_call 145; refine (E1.out _).mono ?_; rintro e w5 ⟨rfl, b5⟩)
            have D5 : Hid (Below w3.heap.size w3 w5) := bT ((Below.refl w3.heap.size w3).drew) b5
            clear b5
            refine hK.out _ _ ?_ (fun hHeld => ?_)
            · exact KB.out _ D5.out
            clear hK K
            refine wpAnyH_take (i := 6) (oi := _) (v := ?_) rfl (by kernel_rfl) (by kernel_rfl) (by kernel_rfl) (fun _ _ _ h => h) (Or.inl ⟨by rfl, ?_⟩) (by assumption) ?_
            rotate_left
            · first | (intro w hSw; (try dsimp only at hSw); go_simp; done) | (intro w hSw; (try dsimp only at hSw); go_simp; with_reducible rfl)
            try simp only [Act.put, List.setIfInBounds_toArray, List.set_cons_zero, List.set_cons_succ, List.getElem_toArray, List.getElem_cons_succ, List.getElem_cons_zero]
            refine wpAnyH_take (i := 7) (oi := _) (v := ?_) rfl (by kernel_rfl) (by kernel_rfl) (by kernel_rfl) (fun _ _ _ h => h) (Or.inl ⟨by rfl, ?_⟩) (by assumption) ?_
            rotate_left
            · first | (intro w hSw; (try dsimp only at hSw); go_simp; done) | (intro w hSw; (try dsimp only at hSw); go_simp; with_reducible rfl)
            try simp only [Act.put, List.setIfInBounds_toArray, List.set_cons_zero, List.set_cons_succ, List.getElem_toArray, List.getElem_cons_succ, List.getElem_cons_zero]
            refine wpAnyH_take (i := 8) (oi := _) (v := ?_) rfl (by kernel_rfl) (by kernel_rfl) (by kernel_rfl) (fun _ _ _ h => h) (Or.inl ⟨by rfl, ?_⟩) (by assumption) ?_
            rotate_left
            · first | (intro w hSw; (try dsimp only at hSw); go_simp; done) | (intro w hSw; (try dsimp only at hSw); go_simp; with_reducible rfl)
            try simp only [Act.put, List.setIfInBounds_toArray, List.set_cons_zero, List.set_cons_succ, List.getElem_toArray, List.getElem_cons_succ, List.getElem_cons_zero]
            refine wpAnyH_take (i := 9) (oi := _) (v := ?_) rfl (by kernel_rfl) (by kernel_rfl) (by kernel_rfl) (fun _ _ _ h => h) (Or.inl ⟨by rfl, ?_⟩) (by assumption) ?_
            rotate_left
            · first | (intro w hSw; (try dsimp only at hSw); go_simp; done) | (intro w hSw; (try dsimp only at hSw); go_simp; with_reducible rfl)
            try simp only [Act.put, List.setIfInBounds_toArray, List.set_cons_zero, List.set_cons_succ, List.getElem_toArray, List.getElem_cons_succ, List.getElem_cons_zero]
            refine wpAnyH_ready (rs := [10]) (by kernel_rfl) (by simp) ?_
            refine AllReadyH.cons rfl (fun K hK => ?_) AllReadyH.nil
            go_simp
            go_wp2_with (go_at_call 153; have PQ := PR.out (a, b, q) _ (bT BW.out D5.out); rw [PRb] at PQ; refine PQ.mono ?_; rintro e w6 ⟨rfl, b6⟩)
            have D6 : Hid (Below w3.heap.size w3 w6) := bT D5.out b6
            clear b6
            refine hK.out _ _ ?_ (fun hHeld => ?_)
            · exact KB.out _ D6.out
            clear hK K
            refine wpAnyH_take (i := 11) (oi := _) (v := ?_) rfl (by kernel_rfl) (by kernel_rfl) (by kernel_rfl) (fun _ _ _ h => h) (Or.inl ⟨by rfl, ?_⟩) (by assumption) ?_
            rotate_left
            · first | (intro w hSw; (try dsimp only at hSw); go_simp; done) | (intro w hSw; (try dsimp only at hSw); go_simp; with_reducible rfl)
            try simp only [Act.put, List.setIfInBounds_toArray, List.set_cons_zero, List.set_cons_succ, List.getElem_toArray, List.getElem_cons_succ, List.getElem_cons_zero]
            refine wpAnyH_take (i := 12) (oi := _) (v := ?_) rfl (by kernel_rfl) (by kernel_rfl) (by kernel_rfl) (fun _ _ _ h => h) (Or.inl ⟨by rfl, ?_⟩) (by assumption) ?_
            rotate_left
            · first | (intro w hSw; (try dsimp only at hSw); go_simp; done) | (intro w hSw; (try dsimp only at hSw); go_simp; with_reducible rfl)
            try simp only [Act.put, List.setIfInBounds_toArray, List.set_cons_zero, List.set_cons_succ, List.getElem_toArray, List.getElem_cons_succ, List.getElem_cons_zero]
            refine wpAnyH_done (by kernel_rfl) ?_ _
            have D7 := Lib.hid (bT BX.out D6.out)
            clear KB D5 D6
            go_wp2_with fail
            go_roundw
            case rel => exact ⟨k + 1, by go_num, by omega, HS, D7⟩
            case measure => simp [intOf]; omega
          · have F := Lib.hid (B_no (p := PairsOK zs ps) (fun (g : (∀ p ∈ ps, PrOK zs p) ∧ PSort ps) => by
              have e1 := OI.out.2 g.2
              have e2 := g.1 ps[k] (List.getElem_mem hlt)
              have e3 : ends ps[k] = ks[k] := by have := congrArg (fun l => l[k]?) e1; simpa [hlt, hlk] using this
              rw [hp] at e2 e3
              rw [hkk] at e3
              exact hok e2))
            have PRb := B_no hok
            clear hp hkk hlt hlk HPA OR hac hok
            rw [hnb] at hnq
            go_wp2_with fail
            generalize wr.alloc (.cells #[.int .i64 a, .int .i64 b, .int .i64 q] 112) = w3 at *
            have KB : Hid (∀ W, Below w3.heap.size w3 W → wr.heap.size < W.heap.size ∧ g3 < W.heap.size ∧ W.cell? ⟨wr.heap.size, 0, none⟩ = some (.int .i64 a) ∧ W.cell? ⟨wr.heap.size, 1, none⟩ = some (.int .i64 b) ∧ W.cell? ⟨wr.heap.size, 2, none⟩ = some (.int .i64 q) ∧ W.cell? ⟨g3, k * 2, none⟩ = some (.int .i64 c) ∧ W.cell? ⟨g3, k * 2 + 1, none⟩ = some (.int .i64 d)) := fun W hW => by
              obtain ⟨k0, k1, k2, k3⟩ := PA.out.kept hW
              exact ⟨k0, Nat.lt_of_lt_of_le rl' hW.size, k1, k2, k3, (hW.cell rl').trans r0', (hW.cell rl').trans r1'⟩
            clear r0 r1 r0' r1' hc0 hc1 hc2
            refine wp_region_held_drew (S := fun W => wr.heap.size < W.heap.size ∧ g3 < W.heap.size ∧ W.cell? ⟨wr.heap.size, 0, none⟩ = some (.int .i64 a) ∧ W.cell? ⟨wr.heap.size, 1, none⟩ = some (.int .i64 b) ∧ W.cell? ⟨wr.heap.size, 2, none⟩ = some (.int .i64 q) ∧ W.cell? ⟨g3, k * 2, none⟩ = some (.int .i64 c) ∧ W.cell? ⟨g3, k * 2 + 1, none⟩ = some (.int .i64 d)) (by kernel_rfl) ?_ (fun hHeld => ?_)
            · exact KB.out _ (Below.refl _ _).drew
            refine wpAnyH_take (i := 0) (oi := _) (v := ?_) rfl (by kernel_rfl) (by kernel_rfl) (by kernel_rfl) (fun _ _ _ h => h) (Or.inl ⟨by rfl, ?_⟩) (by assumption) ?_
            rotate_left
            · first | (intro w hSw; (try dsimp only at hSw); go_simp; done) | (intro w hSw; (try dsimp only at hSw); go_simp; with_reducible rfl)
            try simp only [Act.put, List.setIfInBounds_toArray, List.set_cons_zero, List.set_cons_succ, List.getElem_toArray, List.getElem_cons_zero]
            refine wpAnyH_take (i := 2) (oi := _) (v := ?_) rfl (by kernel_rfl) (by kernel_rfl) (by kernel_rfl) (fun _ _ _ h => h) (Or.inl ⟨by rfl, ?_⟩) (by assumption) ?_
            rotate_left
            · first | (intro w hSw; (try dsimp only at hSw); go_simp; done) | (intro w hSw; (try dsimp only at hSw); go_simp; with_reducible rfl)
            try simp only [Act.put, List.setIfInBounds_toArray, List.set_cons_zero, List.set_cons_succ, List.getElem_toArray, List.getElem_cons_succ, List.getElem_cons_zero]
            refine wpAnyH_take (i := 3) (oi := _) (v := ?_) rfl (by kernel_rfl) (by kernel_rfl) (by kernel_rfl) (fun _ _ _ h => h) (Or.inl ⟨by rfl, ?_⟩) (by assumption) ?_
            rotate_left
            · first | (intro w hSw; (try dsimp only at hSw); go_simp; done) | (intro w hSw; (try dsimp only at hSw); go_simp; with_reducible rfl)
            try simp only [Act.put, List.setIfInBounds_toArray, List.set_cons_zero, List.set_cons_succ, List.getElem_toArray, List.getElem_cons_succ, List.getElem_cons_zero]
            refine wpAnyH_take (i := 4) (oi := _) (v := ?_) rfl (by kernel_rfl) (by kernel_rfl) (by kernel_rfl) (fun _ _ _ h => h) (Or.inl ⟨by rfl, ?_⟩) (by assumption) ?_
            rotate_left
            · first | (intro w hSw; (try dsimp only at hSw); go_simp; done) | (intro w hSw; (try dsimp only at hSw); go_simp; with_reducible rfl)
            try simp only [Act.put, List.setIfInBounds_toArray, List.set_cons_zero, List.set_cons_succ, List.getElem_toArray, List.getElem_cons_succ, List.getElem_cons_zero]
            refine wpAnyH_take (i := 5) (oi := _) (v := ?_) rfl (by kernel_rfl) (by kernel_rfl) (by kernel_rfl) (fun _ _ _ h => h) (Or.inl ⟨by rfl, ?_⟩) (by assumption) ?_
            rotate_left
            · first | (intro w hSw; (try dsimp only at hSw); go_simp; done) | (intro w hSw; (try dsimp only at hSw); go_simp; with_reducible rfl)
            try simp only [Act.put, List.setIfInBounds_toArray, List.set_cons_zero, List.set_cons_succ, List.getElem_toArray, List.getElem_cons_succ, List.getElem_cons_zero]
            refine wpAnyH_ready (rs := [1]) (by kernel_rfl) (by simp) ?_
            refine AllReadyH.cons rfl (fun K hK => ?_) AllReadyH.nil
            go_simp
            go_wp2_with (go_at_call 145; refine (E1.out _).mono ?_; rintro e w5 ⟨rfl, b5⟩)
            have D5 : Hid (Below w3.heap.size w3 w5) := bT ((Below.refl w3.heap.size w3).drew) b5
            clear b5
            refine hK.out _ _ ?_ (fun hHeld => ?_)
            · exact KB.out _ D5.out
            clear hK K
            refine wpAnyH_take (i := 6) (oi := _) (v := ?_) rfl (by kernel_rfl) (by kernel_rfl) (by kernel_rfl) (fun _ _ _ h => h) (Or.inl ⟨by rfl, ?_⟩) (by assumption) ?_
            rotate_left
            · first | (intro w hSw; (try dsimp only at hSw); go_simp; done) | (intro w hSw; (try dsimp only at hSw); go_simp; with_reducible rfl)
            try simp only [Act.put, List.setIfInBounds_toArray, List.set_cons_zero, List.set_cons_succ, List.getElem_toArray, List.getElem_cons_succ, List.getElem_cons_zero]
            refine wpAnyH_take (i := 7) (oi := _) (v := ?_) rfl (by kernel_rfl) (by kernel_rfl) (by kernel_rfl) (fun _ _ _ h => h) (Or.inl ⟨by rfl, ?_⟩) (by assumption) ?_
            rotate_left
            · first | (intro w hSw; (try dsimp only at hSw); go_simp; done) | (intro w hSw; (try dsimp only at hSw); go_simp; with_reducible rfl)
            try simp only [Act.put, List.setIfInBounds_toArray, List.set_cons_zero, List.set_cons_succ, List.getElem_toArray, List.getElem_cons_succ, List.getElem_cons_zero]
            refine wpAnyH_take (i := 8) (oi := _) (v := ?_) rfl (by kernel_rfl) (by kernel_rfl) (by kernel_rfl) (fun _ _ _ h => h) (Or.inl ⟨by rfl, ?_⟩) (by assumption) ?_
            rotate_left
            · first | (intro w hSw; (try dsimp only at hSw); go_simp; done) | (intro w hSw; (try dsimp only at hSw); go_simp; with_reducible rfl)
            try simp only [Act.put, List.setIfInBounds_toArray, List.set_cons_zero, List.set_cons_succ, List.getElem_toArray, List.getElem_cons_succ, List.getElem_cons_zero]
            refine wpAnyH_take (i := 9) (oi := _) (v := ?_) rfl (by kernel_rfl) (by kernel_rfl) (by kernel_rfl) (fun _ _ _ h => h) (Or.inl ⟨by rfl, ?_⟩) (by assumption) ?_
            rotate_left
            · first | (intro w hSw; (try dsimp only at hSw); go_simp; done) | (intro w hSw; (try dsimp only at hSw); go_simp; with_reducible rfl)
            try simp only [Act.put, List.setIfInBounds_toArray, List.set_cons_zero, List.set_cons_succ, List.getElem_toArray, List.getElem_cons_succ, List.getElem_cons_zero]
            refine wpAnyH_ready (rs := [10]) (by kernel_rfl) (by simp) ?_
            refine AllReadyH.cons rfl (fun K hK => ?_) AllReadyH.nil
            go_simp
            go_wp2_with (go_at_call 153; have PQ := PR.out (a, b, q) _ (bT BW.out D5.out); rw [PRb] at PQ; refine PQ.mono ?_; rintro e w6 ⟨rfl, b6⟩)
            have D6 : Hid (Below w3.heap.size w3 w6) := bT D5.out b6
            clear b6
            refine hK.out _ _ ?_ (fun hHeld => ?_)
            · exact KB.out _ D6.out
            clear hK K
            refine wpAnyH_take (i := 11) (oi := _) (v := ?_) rfl (by kernel_rfl) (by kernel_rfl) (by kernel_rfl) (fun _ _ _ h => h) (Or.inl ⟨by rfl, ?_⟩) (by assumption) ?_
            rotate_left
            · first | (intro w hSw; (try dsimp only at hSw); go_simp; done) | (intro w hSw; (try dsimp only at hSw); go_simp; with_reducible rfl)
            try simp only [Act.put, List.setIfInBounds_toArray, List.set_cons_zero, List.set_cons_succ, List.getElem_toArray, List.getElem_cons_succ, List.getElem_cons_zero]
            refine wpAnyH_take (i := 12) (oi := _) (v := ?_) rfl (by kernel_rfl) (by kernel_rfl) (by kernel_rfl) (fun _ _ _ h => h) (Or.inl ⟨by rfl, ?_⟩) (by assumption) ?_
            rotate_left
            · first | (intro w hSw; (try dsimp only at hSw); go_simp; done) | (intro w hSw; (try dsimp only at hSw); go_simp; with_reducible rfl)
            try simp only [Act.put, List.setIfInBounds_toArray, List.set_cons_zero, List.set_cons_succ, List.getElem_toArray, List.getElem_cons_succ, List.getElem_cons_zero]
            refine wpAnyH_done (by kernel_rfl) ?_ _
            have D7 := Lib.hid (bT BW.out D6.out)
            clear KB D5 D6
            go_wp2
            go_ret
            exact ⟨by rw [F.out]; rfl, D7.out⟩
        · have hnb : (!(a == c && b == d)) = true := by
            by_cases e1 : a = c
            · have e2 : b ≠ d := fun e2 => hac ⟨e1, e2⟩
              simp [e1, e2]
            · simp [e1]
          have F := Lib.hid (B_no (p := PairsOK zs ps) (fun (g : (∀ p ∈ ps, PrOK zs p) ∧ PSort ps) => by
            have e1 := OI.out.2 g.2
            have e2 := g.1 ps[k] (List.getElem_mem hlt)
            have e3 : ends ps[k] = ks[k] := by have := congrArg (fun l => l[k]?) e1; simpa [hlt, hlk] using this
            rw [hp] at e2 e3
            rw [hkk] at e3
            exact hac ⟨congrArg Prod.fst e3, congrArg Prod.snd e3⟩))
          clear hp hkk hlt hlk HPA OR hac
          rw [hnb] at hnq
          go_wp2_with fail
          generalize wr.alloc (.cells #[.int .i64 a, .int .i64 b, .int .i64 q] 112) = w3 at *
          have KB : Hid (∀ W, Below w3.heap.size w3 W → wr.heap.size < W.heap.size ∧ g3 < W.heap.size ∧ W.cell? ⟨wr.heap.size, 0, none⟩ = some (.int .i64 a) ∧ W.cell? ⟨wr.heap.size, 1, none⟩ = some (.int .i64 b) ∧ W.cell? ⟨wr.heap.size, 2, none⟩ = some (.int .i64 q) ∧ W.cell? ⟨g3, k * 2, none⟩ = some (.int .i64 c) ∧ W.cell? ⟨g3, k * 2 + 1, none⟩ = some (.int .i64 d)) := fun W hW => by
            obtain ⟨k0, k1, k2, k3⟩ := PA.out.kept hW
            exact ⟨k0, Nat.lt_of_lt_of_le rl' hW.size, k1, k2, k3, (hW.cell rl').trans r0', (hW.cell rl').trans r1'⟩
          clear r0 r1 r0' r1' hc0 hc1 hc2
          refine wp_region_held_drew (S := fun W => wr.heap.size < W.heap.size ∧ g3 < W.heap.size ∧ W.cell? ⟨wr.heap.size, 0, none⟩ = some (.int .i64 a) ∧ W.cell? ⟨wr.heap.size, 1, none⟩ = some (.int .i64 b) ∧ W.cell? ⟨wr.heap.size, 2, none⟩ = some (.int .i64 q) ∧ W.cell? ⟨g3, k * 2, none⟩ = some (.int .i64 c) ∧ W.cell? ⟨g3, k * 2 + 1, none⟩ = some (.int .i64 d)) (by kernel_rfl) ?_ (fun hHeld => ?_)
          · exact KB.out _ (Below.refl _ _).drew
          refine wpAnyH_take (i := 0) (oi := _) (v := ?_) rfl (by kernel_rfl) (by kernel_rfl) (by kernel_rfl) (fun _ _ _ h => h) (Or.inl ⟨by rfl, ?_⟩) (by assumption) ?_
          rotate_left
          · first | (intro w hSw; (try dsimp only at hSw); go_simp; done) | (intro w hSw; (try dsimp only at hSw); go_simp; with_reducible rfl)
          try simp only [Act.put, List.setIfInBounds_toArray, List.set_cons_zero, List.set_cons_succ, List.getElem_toArray, List.getElem_cons_zero]
          refine wpAnyH_take (i := 2) (oi := _) (v := ?_) rfl (by kernel_rfl) (by kernel_rfl) (by kernel_rfl) (fun _ _ _ h => h) (Or.inl ⟨by rfl, ?_⟩) (by assumption) ?_
          rotate_left
          · first | (intro w hSw; (try dsimp only at hSw); go_simp; done) | (intro w hSw; (try dsimp only at hSw); go_simp; with_reducible rfl)
          try simp only [Act.put, List.setIfInBounds_toArray, List.set_cons_zero, List.set_cons_succ, List.getElem_toArray, List.getElem_cons_succ, List.getElem_cons_zero]
          refine wpAnyH_take (i := 3) (oi := _) (v := ?_) rfl (by kernel_rfl) (by kernel_rfl) (by kernel_rfl) (fun _ _ _ h => h) (Or.inl ⟨by rfl, ?_⟩) (by assumption) ?_
          rotate_left
          · first | (intro w hSw; (try dsimp only at hSw); go_simp; done) | (intro w hSw; (try dsimp only at hSw); go_simp; with_reducible rfl)
          try simp only [Act.put, List.setIfInBounds_toArray, List.set_cons_zero, List.set_cons_succ, List.getElem_toArray, List.getElem_cons_succ, List.getElem_cons_zero]
          refine wpAnyH_take (i := 4) (oi := _) (v := ?_) rfl (by kernel_rfl) (by kernel_rfl) (by kernel_rfl) (fun _ _ _ h => h) (Or.inl ⟨by rfl, ?_⟩) (by assumption) ?_
          rotate_left
          · first | (intro w hSw; (try dsimp only at hSw); go_simp; done) | (intro w hSw; (try dsimp only at hSw); go_simp; with_reducible rfl)
          try simp only [Act.put, List.setIfInBounds_toArray, List.set_cons_zero, List.set_cons_succ, List.getElem_toArray, List.getElem_cons_succ, List.getElem_cons_zero]
          refine wpAnyH_take (i := 5) (oi := _) (v := ?_) rfl (by kernel_rfl) (by kernel_rfl) (by kernel_rfl) (fun _ _ _ h => h) (Or.inl ⟨by rfl, ?_⟩) (by assumption) ?_
          rotate_left
          · first | (intro w hSw; (try dsimp only at hSw); go_simp; done) | (intro w hSw; (try dsimp only at hSw); go_simp; with_reducible rfl)
          try simp only [Act.put, List.setIfInBounds_toArray, List.set_cons_zero, List.set_cons_succ, List.getElem_toArray, List.getElem_cons_succ, List.getElem_cons_zero]
          refine wpAnyH_ready (rs := [1]) (by kernel_rfl) (by simp) ?_
          refine AllReadyH.cons rfl (fun K hK => ?_) AllReadyH.nil
          go_simp
          go_wp2_with (go_at_call 145; refine (E1.out _).mono ?_; rintro e w5 ⟨rfl, b5⟩)
          have D5 : Hid (Below w3.heap.size w3 w5) := bT ((Below.refl w3.heap.size w3).drew) b5
          clear b5
          refine hK.out _ _ ?_ (fun hHeld => ?_)
          · exact KB.out _ D5.out
          clear hK K
          refine wpAnyH_take (i := 6) (oi := _) (v := ?_) rfl (by kernel_rfl) (by kernel_rfl) (by kernel_rfl) (fun _ _ _ h => h) (Or.inl ⟨by rfl, ?_⟩) (by assumption) ?_
          rotate_left
          · first | (intro w hSw; (try dsimp only at hSw); go_simp; done) | (intro w hSw; (try dsimp only at hSw); go_simp; with_reducible rfl)
          try simp only [Act.put, List.setIfInBounds_toArray, List.set_cons_zero, List.set_cons_succ, List.getElem_toArray, List.getElem_cons_succ, List.getElem_cons_zero]
          refine wpAnyH_take (i := 7) (oi := _) (v := ?_) rfl (by kernel_rfl) (by kernel_rfl) (by kernel_rfl) (fun _ _ _ h => h) (Or.inl ⟨by rfl, ?_⟩) (by assumption) ?_
          rotate_left
          · first | (intro w hSw; (try dsimp only at hSw); go_simp; done) | (intro w hSw; (try dsimp only at hSw); go_simp; with_reducible rfl)
          try simp only [Act.put, List.setIfInBounds_toArray, List.set_cons_zero, List.set_cons_succ, List.getElem_toArray, List.getElem_cons_succ, List.getElem_cons_zero]
          refine wpAnyH_take (i := 8) (oi := _) (v := undef) rfl (by kernel_rfl) (by kernel_rfl) (by kernel_rfl) (fun _ _ _ h => h) (Or.inr ⟨by rfl, rfl⟩) (by assumption) ?_
          try simp only [Act.put, List.setIfInBounds_toArray, List.set_cons_zero, List.set_cons_succ, List.getElem_toArray, List.getElem_cons_succ, List.getElem_cons_zero]
          refine wpAnyH_take (i := 9) (oi := _) (v := undef) rfl (by kernel_rfl) (by kernel_rfl) (by kernel_rfl) (fun _ _ _ h => h) (Or.inr ⟨by rfl, rfl⟩) (by assumption) ?_
          try simp only [Act.put, List.setIfInBounds_toArray, List.set_cons_zero, List.set_cons_succ, List.getElem_toArray, List.getElem_cons_succ, List.getElem_cons_zero]
          refine wpAnyH_take (i := 10) (oi := _) (v := undef) rfl (by kernel_rfl) (by kernel_rfl) (by kernel_rfl) (fun _ _ _ h => h) (Or.inr ⟨by rfl, rfl⟩) (by assumption) ?_
          try simp only [Act.put, List.setIfInBounds_toArray, List.set_cons_zero, List.set_cons_succ, List.getElem_toArray, List.getElem_cons_succ, List.getElem_cons_zero]
          refine wpAnyH_take (i := 11) (oi := _) (v := undef) rfl (by kernel_rfl) (by kernel_rfl) (by kernel_rfl) (fun _ _ _ h => h) (Or.inr ⟨by rfl, rfl⟩) (by assumption) ?_
          try simp only [Act.put, List.setIfInBounds_toArray, List.set_cons_zero, List.set_cons_succ, List.getElem_toArray, List.getElem_cons_succ, List.getElem_cons_zero]
          refine wpAnyH_take (i := 12) (oi := _) (v := ?_) rfl (by kernel_rfl) (by kernel_rfl) (by kernel_rfl) (fun _ _ _ h => h) (Or.inl ⟨by rfl, ?_⟩) (by assumption) ?_
          rotate_left
          · first | (intro w hSw; (try dsimp only at hSw); go_simp; done) | (intro w hSw; (try dsimp only at hSw); go_simp; with_reducible rfl)
          try simp only [Act.put, List.setIfInBounds_toArray, List.set_cons_zero, List.set_cons_succ, List.getElem_toArray, List.getElem_cons_succ, List.getElem_cons_zero]
          refine wpAnyH_done (by kernel_rfl) ?_ _
          have D7 := Lib.hid (bT BW.out D5.out)
          clear KB D5
          go_wp2
          go_ret
          exact ⟨by rw [F.out]; rfl, D7.out⟩
      · have h1' : ¬ (k : Int) < (m : Int) := by omega
        have F := Lib.hid (B_yes (p := PairsOK zs ps) (show (∀ p ∈ ps, PrOK zs p) ∧ PSort ps from ⟨fun p hp => by
            obtain ⟨i, hi, rfl⟩ := List.getElem_of_mem hp
            exact (H1.out i hi (by rw [HK.out, ← HN.out]; exact hi) (by rw [HN.out] at hi; omega)).2, OI.out.1 (by
            apply List.ext_getElem
            · rw [List.length_map, HN.out, HK.out]
            · intro i h1 h2
              rw [List.getElem_map]
              exact (H1.out i (by simpa using h1) h2 (by rw [HK.out] at h2; omega)).1)⟩))
        have D7 := Lib.hid (bT B2.out H2.out)
        go_wp2
        go_ret
        exact ⟨by rw [F.out]; rfl, D7.out⟩
  · have hmn' : ((m : Int) != (n : Int)) = true := by simp; omega
    have F := Lib.hid (B_no (p := PairsOK zs ps) (fun (g : (∀ p ∈ ps, PrOK zs p) ∧ PSort ps) => hmn (by have := congrArg List.length (OI.out.2 g.2); rw [List.length_map, HN.out, HK.out] at this; exact this.symm)))
    go_wp2
    go_ret
    exact ⟨by rw [F.out]; rfl, B2.out⟩
end Go.Proofs.Ytdmfljejlhlbnaa
