import Derived.Test.YtnihhbfgbilimaaGreatDoorZCa
import Derived.Test.YtnihhbfgbilimaaGreatDoorZJa
namespace Go.Proofs.YtnihhbfgbilimaaGreatDoor
open Go.RowKit
set_option linter.unusedVariables false
open List (setIfInBounds_toArray set_cons_zero set_cons_succ getElem_toArray getElem_cons_succ getElem_cons_zero)
set_option linter.unusedSimpArgs false
theorem infoB : (Tryz.prog.info? 103).map (fun i => (i.zero, i.size, i.bytes)) = some (some (.agg #[.int .i64 0, .int .i64 0, .int .i64 0]), 3, 24) := by kernel_rfl
theorem stC_one (rs : List LSt) (h : ∀ r ∈ rs, r.2.2.1.oneCell' = true) : ∀ u ∈ stC rs, u.oneCell' = true := by
 intro u hu
 unfold stC at hu
 obtain ⟨r, hr, hm⟩ := List.mem_flatMap.1 hu
 simp at hm
 rcases hm with rfl | rfl | rfl
 ·rfl
 ·rfl
 ·exact h r hr
theorem prC_one (ps : List LPr) : ∀ u ∈ prC ps, u.oneCell' = true := by
 intro u hu
 unfold prC at hu
 obtain ⟨r, hr, hm⟩ := List.mem_flatMap.1 hu
 simp at hm
 rcases hm with rfl | rfl | rfl <;> rfl
theorem st_cells {w : World} {c o : Nat} {rs : List LSt} (h : StAt w c o rs) : ∀ (j : Nat) (u : Value), (stC rs)[j]? = some u → w.cell? ((⟨c, o, none⟩ : Addr).add j) = some u := by
 intro j u hu
 have hl : j < rs.length * 3 := by
  have := (List.getElem?_eq_some_iff.1 hu).1
  rwa [stC_len] at this
 rw [at_add]
 obtain ⟨i, rfl | rfl | rfl⟩ : ∃ i, j = i * 3 ∨ j = i * 3 + 1 ∨ j = i * 3 + 2 := ⟨j / 3, by omega⟩
 ·have hi : i < rs.length := by omega
  rw [(h.cell i hi).1, ← hu, (stC_at rs i hi).1]
 ·have hi : i < rs.length := by omega
  rw [← Nat.add_assoc, (h.cell i hi).2.1, ← hu, (stC_at rs i hi).2.1]
 ·have hi : i < rs.length := by omega
  rw [← Nat.add_assoc, (h.cell i hi).2.2, ← hu, (stC_at rs i hi).2.2]
theorem pr_cells {w : World} {c o : Nat} {rs : List LPr} (h : PrAt w c o rs) : ∀ (j : Nat) (u : Value), (prC rs)[j]? = some u → w.cell? ((⟨c, o, none⟩ : Addr).add j) = some u := by
 intro j u hu
 have hl : j < rs.length * 3 := by
  have := (List.getElem?_eq_some_iff.1 hu).1
  rwa [prC_len] at this
 rw [at_add]
 obtain ⟨i, rfl | rfl | rfl⟩ : ∃ i, j = i * 3 ∨ j = i * 3 + 1 ∨ j = i * 3 + 2 := ⟨j / 3, by omega⟩
 ·have hi : i < rs.length := by omega
  rw [(h.cell i hi).1, ← hu, (prC_at rs i hi).1]
 ·have hi : i < rs.length := by omega
  rw [← Nat.add_assoc, (h.cell i hi).2.1, ← hu, (prC_at rs i hi).2.1]
 ·have hi : i < rs.length := by omega
  rw [← Nat.add_assoc, (h.cell i hi).2.2, ← hu, (prC_at rs i hi).2.2]
theorem app_noneS (w : World) (ty : TypeId) (base : Option Addr) (n cap : Nat) (hle : n ≤ cap) (p : Option Addr) (c : Nat) :
  (Builtin.append_ #[23, 23] ty #[.slice base n cap, .slice p 0 c]).run Tryz.prog w = .ok (.slice base n cap) w := by
 obtain ⟨i, h1, h2, h3, h4⟩ := info_parts info54
 refine run_append_nothing w 23 23 ty 92 i Tryz.underlying23 h1 base n cap hle _ ?_
 cases p with
 | none => exact Src.ofNil _ Tryz.underlying23 c
 | some a => exact Src.ofSlice _ Tryz.underlying23 a 0 c [] (by simp) (fun j u h => by simp at h) (fun u h => by cases h)
theorem appS {w : World} {B : Nat} {v : Value} {n : Nat} {xs : List Value} (h : w.ownsRow B 92 3 v n xs) {s : Option Addr} {r : List LSt} (k : Nat) (hi : Sts w s r) (hB : B ≤ w.heap.size) (hl : n + r.length ≤ 10000000) :
  ∃ v9 w9, (∀ ty, (Builtin.append_ #[23, 23] ty #[v, .slice s r.length k]).run Tryz.prog w = .ok v9 w9) ∧ w9.ownsRow B 92 3 v9 (n + r.length) (xs ++ stC r) ∧ w.grownBy w9 v.ownBlock ∧ (∀ j, v9.ownBlock = some j → v.ownBlock = some j ∨ j = w.heap.size) := by
 obtain ⟨i3, hi3, hd0, hd1, hd2⟩ := info_parts info54
 have hdm := hi.dom
 obtain ⟨sl, cap, rfl⟩ := own_v h
 by_cases he : r = []
 ·subst he
  exact ⟨_, w, fun ty => app_noneS w ty sl n cap (own_cap8 h) s k, by simpa [stC] using h, ⟨rfl, rfl, rfl, Nat.le_refl _, fun _ _ _ => rfl⟩, fun j hj => .inl hj⟩
 ·obtain ⟨c, o, rfl, hi2⟩ : ∃ c o, s = some ⟨c, o, none⟩ ∧ StAt w c o r := by
   rcases hi.row with hi | hi
   ·exact absurd hi he
   ·exact hi
  obtain ⟨g, c9, w9, hr, own9, grow9, hg, -⟩ := run_append_lies (P := Tryz.prog) w 23 23 B 92 i3 (.agg #[.int .i64 0, .int .i64 0, .slice none 0 0]) 3 40 Tryz.underlying23 hi3 hd0 hd1 hd2 rfl (by decide) _ _ _ h ⟨c, o, none⟩ r.length k (stC r) (stC_len r) (st_cells hi2) (stC_one r (fun q hq => by obtain ⟨s1, c1, e1, _⟩ := hdm q hq; rw [e1]; rfl)) (List.length_pos_iff.2 he) (by unfold maxLen; omega) (by omega) hB w.heap.size rfl
  refine ⟨_, w9, fun ty => hr, own9, grow9, fun j hj => ?_⟩
  have e : j = g := by simp [Value.ownBlock] at hj; exact hj.symm
  rcases hg with hg | hg
  ·exact .inl (by rw [hg, e])
  ·exact .inr (by omega)
theorem own_noneS (w : World) : (w.alloc (.cells #[] 92)).ownsRow w.heap.size 92 3 (.slice (some ⟨w.heap.size, 0, none⟩) 0 0) 0 [] :=
 ⟨rfl, .inr ⟨w.heap.size, 0, #[], rfl, Nat.le_refl _, by show (w.heap.push _)[w.heap.size]? = _; simp, Nat.le_refl _, Nat.zero_le _, rfl, rfl⟩⟩
set_option maxRecDepth 100000 in
set_option maxHeartbeats 2000000 in
theorem cloS_any (sl : Option Addr) (cap : Nat) (pl : List LSt) (w : World) (hn : pl.length ≤ 1048576) (hz : Sts w sl pl) :
  Calls Tryz.prog 150 #[.slice sl pl.length cap] w fun e w' => ∃ v, e = .returned v ∧ w'.ownsRow w.heap.size 92 3 v pl.length (stC pl) ∧ Below w.heap.size w w' := by
 cases sl with
 | none =>
  have e : pl = [] := by
   rcases hz.row with h | ⟨c, o, e, _⟩
   ·exact h
   ·cases e
  subst e
  have hq := fun W : World => Lib.run_eql_slice_nil (P := Tryz.prog) W 23 92 none 0 cap 0 0 Tryz.underlying23
  simp only [Option.isNone_none] at hq
  go_enter Tryz.func150, Tryz.ntmps150
  go_wp2
  go_ret
  exact ⟨_, rfl, ⟨rfl, .inl ⟨rfl, rfl⟩⟩, Below.refl _ _⟩
 | some a =>
  have B0 := Lib.hid (bA0 w (.cells #[] 92))
  obtain ⟨v9, w9, ha, ow, gr, -⟩ := appS (own_noneS w) cap (hz.below B0.out) B0.out.size (by omega)
  have ha' := ha 23
  have O9 : Hid (w9.ownsRow w.heap.size 92 3 v9 pl.length (stC pl)) := by
   have := ow
   rwa [List.nil_append, Nat.zero_add] at this
  have hq := fun W : World => Lib.run_eql_slice_nil (P := Tryz.prog) W 23 92 (some a) pl.length cap 0 0 Tryz.underlying23
  simp only [Option.isNone_some] at hq
  have B9 := Lib.hid (B0.out.grown gr B0.out.size (fun j hj => ((own_noneS w).lt j hj).1))
  clear ha ow gr hz B0
  generalize pl.length = n at *
  go_enter Tryz.func150, Tryz.ntmps150
  go_wp2_with (at_builtin; refine Lib.wpList_append_run _ rfl _ _ _ _ rfl _ _ rfl rfl _ _ ha' ?_)
  go_ret
  exact ⟨_, rfl, O9.out, B9.out⟩
theorem app_noneR (w : World) (ty : TypeId) (base : Option Addr) (n cap : Nat) (hle : n ≤ cap) (p : Option Addr) (c : Nat) :
  (Builtin.append_ #[24, 24] ty #[.slice base n cap, .slice p 0 c]).run Tryz.prog w = .ok (.slice base n cap) w := by
 obtain ⟨i, h1, h2, h3, h4⟩ := info_parts info56
 refine run_append_nothing w 24 24 ty 165 i Tryz.underlying24 h1 base n cap hle _ ?_
 cases p with
 | none => exact Src.ofNil _ Tryz.underlying24 c
 | some a => exact Src.ofSlice _ Tryz.underlying24 a 0 c [] (by simp) (fun j u h => by simp at h) (fun u h => by cases h)
theorem appR {w : World} {B : Nat} {v : Value} {n : Nat} {xs : List Value} (h : w.ownsRow B 165 3 v n xs) {s : Option Addr} {r : List LPr} (k : Nat) (hi : Prs w s r) (hB : B ≤ w.heap.size) (hl : n + r.length ≤ 10000000) :
  ∃ v9 w9, (∀ ty, (Builtin.append_ #[24, 24] ty #[v, .slice s r.length k]).run Tryz.prog w = .ok v9 w9) ∧ w9.ownsRow B 165 3 v9 (n + r.length) (xs ++ prC r) ∧ w.grownBy w9 v.ownBlock ∧ (∀ j, v9.ownBlock = some j → v.ownBlock = some j ∨ j = w.heap.size) := by
 obtain ⟨i3, hi3, hd0, hd1, hd2⟩ := info_parts info56
 obtain ⟨sl, cap, rfl⟩ := own_v h
 by_cases he : r = []
 ·subst he
  exact ⟨_, w, fun ty => app_noneR w ty sl n cap (own_cap8 h) s k, by simpa [prC] using h, ⟨rfl, rfl, rfl, Nat.le_refl _, fun _ _ _ => rfl⟩, fun j hj => .inl hj⟩
 ·obtain ⟨c, o, rfl, hi2⟩ : ∃ c o, s = some ⟨c, o, none⟩ ∧ PrAt w c o r := by
   rcases hi with hi | hi
   ·exact absurd hi he
   ·exact hi
  obtain ⟨g, c9, w9, hr, own9, grow9, hg, -⟩ := run_append_lies (P := Tryz.prog) w 24 24 B 165 i3 (.agg #[.int .i64 0, .int .i64 0, .int .i64 0]) 3 24 Tryz.underlying24 hi3 hd0 hd1 hd2 rfl (by decide) _ _ _ h ⟨c, o, none⟩ r.length k (prC r) (prC_len r) (pr_cells hi2) (prC_one r) (List.length_pos_iff.2 he) (by unfold maxLen; omega) (by omega) hB w.heap.size rfl
  refine ⟨_, w9, fun ty => hr, own9, grow9, fun j hj => ?_⟩
  have e : j = g := by simp [Value.ownBlock] at hj; exact hj.symm
  rcases hg with hg | hg
  ·exact .inl (by rw [hg, e])
  ·exact .inr (by omega)
theorem own_noneR (w : World) : (w.alloc (.cells #[] 165)).ownsRow w.heap.size 165 3 (.slice (some ⟨w.heap.size, 0, none⟩) 0 0) 0 [] :=
 ⟨rfl, .inr ⟨w.heap.size, 0, #[], rfl, Nat.le_refl _, by show (w.heap.push _)[w.heap.size]? = _; simp, Nat.le_refl _, Nat.zero_le _, rfl, rfl⟩⟩
set_option maxRecDepth 100000 in
set_option maxHeartbeats 2000000 in
theorem cloR_any (sl : Option Addr) (cap : Nat) (pl : List LPr) (w : World) (hn : pl.length ≤ 1048576) (hz : Prs w sl pl) :
  Calls Tryz.prog 152 #[.slice sl pl.length cap] w fun e w' => ∃ v, e = .returned v ∧ w'.ownsRow w.heap.size 165 3 v pl.length (prC pl) ∧ Below w.heap.size w w' := by
 cases sl with
 | none =>
  have e : pl = [] := by
   rcases hz with h | ⟨c, o, e, _⟩
   ·exact h
   ·cases e
  subst e
  have hq := fun W : World => Lib.run_eql_slice_nil (P := Tryz.prog) W 24 165 none 0 cap 0 0 Tryz.underlying24
  simp only [Option.isNone_none] at hq
  go_enter Tryz.func152, Tryz.ntmps152
  go_wp2
  go_ret
  exact ⟨_, rfl, ⟨rfl, .inl ⟨rfl, rfl⟩⟩, Below.refl _ _⟩
 | some a =>
  have B0 := Lib.hid (bA0 w (.cells #[] 165))
  obtain ⟨v9, w9, ha, ow, gr, -⟩ := appR (own_noneR w) cap (hz.below B0.out) B0.out.size (by omega)
  have ha' := ha 24
  have O9 : Hid (w9.ownsRow w.heap.size 165 3 v9 pl.length (prC pl)) := by
   have := ow
   rwa [List.nil_append, Nat.zero_add] at this
  have hq := fun W : World => Lib.run_eql_slice_nil (P := Tryz.prog) W 24 165 (some a) pl.length cap 0 0 Tryz.underlying24
  simp only [Option.isNone_some] at hq
  have B9 := Lib.hid (B0.out.grown gr B0.out.size (fun j hj => ((own_noneR w).lt j hj).1))
  clear ha ow gr hz B0
  generalize pl.length = n at *
  go_enter Tryz.func152, Tryz.ntmps152
  go_wp2_with (at_builtin; refine Lib.wpList_append_run _ rfl _ _ _ _ rfl _ _ rfl rfl _ _ ha' ?_)
  go_ret
  exact ⟨_, rfl, O9.out, B9.out⟩
theorem app_noneD (w : World) (ty : TypeId) (base : Option Addr) (n cap : Nat) (hle : n ≤ cap) (p : Option Addr) (c : Nat) :
  (Builtin.append_ #[27, 27] ty #[.slice base n cap, .slice p 0 c]).run Tryz.prog w = .ok (.slice base n cap) w := by
 obtain ⟨i, h1, h2, h3, h4⟩ := info_parts infoB
 refine run_append_nothing w 27 27 ty 103 i Tryz.underlying27 h1 base n cap hle _ ?_
 cases p with
 | none => exact Src.ofNil _ Tryz.underlying27 c
 | some a => exact Src.ofSlice _ Tryz.underlying27 a 0 c [] (by simp) (fun j u h => by simp at h) (fun u h => by cases h)
theorem appD {w : World} {B : Nat} {v : Value} {n : Nat} {xs : List Value} (h : w.ownsRow B 103 3 v n xs) {s : Option Addr} {r : List LPr} (k : Nat) (hi : Prs w s r) (hB : B ≤ w.heap.size) (hl : n + r.length ≤ 10000000) :
  ∃ v9 w9, (∀ ty, (Builtin.append_ #[27, 27] ty #[v, .slice s r.length k]).run Tryz.prog w = .ok v9 w9) ∧ w9.ownsRow B 103 3 v9 (n + r.length) (xs ++ prC r) ∧ w.grownBy w9 v.ownBlock ∧ (∀ j, v9.ownBlock = some j → v.ownBlock = some j ∨ j = w.heap.size) := by
 obtain ⟨i3, hi3, hd0, hd1, hd2⟩ := info_parts infoB
 obtain ⟨sl, cap, rfl⟩ := own_v h
 by_cases he : r = []
 ·subst he
  exact ⟨_, w, fun ty => app_noneD w ty sl n cap (own_cap8 h) s k, by simpa [prC] using h, ⟨rfl, rfl, rfl, Nat.le_refl _, fun _ _ _ => rfl⟩, fun j hj => .inl hj⟩
 ·obtain ⟨c, o, rfl, hi2⟩ : ∃ c o, s = some ⟨c, o, none⟩ ∧ PrAt w c o r := by
   rcases hi with hi | hi
   ·exact absurd hi he
   ·exact hi
  obtain ⟨g, c9, w9, hr, own9, grow9, hg, -⟩ := run_append_lies (P := Tryz.prog) w 27 27 B 103 i3 (.agg #[.int .i64 0, .int .i64 0, .int .i64 0]) 3 24 Tryz.underlying27 hi3 hd0 hd1 hd2 rfl (by decide) _ _ _ h ⟨c, o, none⟩ r.length k (prC r) (prC_len r) (pr_cells hi2) (prC_one r) (List.length_pos_iff.2 he) (by unfold maxLen; omega) (by omega) hB w.heap.size rfl
  refine ⟨_, w9, fun ty => hr, own9, grow9, fun j hj => ?_⟩
  have e : j = g := by simp [Value.ownBlock] at hj; exact hj.symm
  rcases hg with hg | hg
  ·exact .inl (by rw [hg, e])
  ·exact .inr (by omega)
theorem own_noneD (w : World) : (w.alloc (.cells #[] 103)).ownsRow w.heap.size 103 3 (.slice (some ⟨w.heap.size, 0, none⟩) 0 0) 0 [] :=
 ⟨rfl, .inr ⟨w.heap.size, 0, #[], rfl, Nat.le_refl _, by show (w.heap.push _)[w.heap.size]? = _; simp, Nat.le_refl _, Nat.zero_le _, rfl, rfl⟩⟩
theorem appQ {w : World} {B : Nat} {v : Value} {n : Nat} {xs : List Value} (h : w.ownsRow B 131 2 v n xs) {s : Option Addr} {r : List LPl} (k : Nat) (hi : Pls w s r) (hB : B ≤ w.heap.size) (hl : n + r.length ≤ 10000000) :
  ∃ v9 w9, (∀ ty, (Builtin.append_ #[28, 28] ty #[v, .slice s r.length k]).run Tryz.prog w = .ok v9 w9) ∧ w9.ownsRow B 131 2 v9 (n + r.length) (xs ++ enCells r) ∧ w.grownBy w9 v.ownBlock ∧ (∀ j, v9.ownBlock = some j → v.ownBlock = some j ∨ j = w.heap.size) := by
 obtain ⟨i3, hi3, hd0, hd1, hd2⟩ := info_parts info34
 obtain ⟨sl, cap, rfl⟩ := own_v h
 by_cases he : r = []
 ·subst he
  exact ⟨_, w, fun ty => app_none27 w ty sl n cap (own_cap8 h) s k, by simpa [enCells] using h, ⟨rfl, rfl, rfl, Nat.le_refl _, fun _ _ _ => rfl⟩, fun j hj => .inl hj⟩
 ·rcases hi with hi | ⟨c, o, rfl, hi⟩
  ·exact absurd hi he
  ·obtain ⟨g, c9, w9, hr, own9, grow9, hg, -⟩ := run_append_lies (P := Tryz.prog) w 28 28 B 131 i3 (.agg #[.int .i64 0, .int .i64 0]) 2 16 Tryz.underlying28 hi3 hd0 hd1 hd2 rfl (by decide) _ _ _ h ⟨c, o, none⟩ r.length k (enCells r) (enCells_len r) (pl_cells hi) (enCells_one r) (List.length_pos_iff.2 he) (by unfold maxLen; omega) (by omega) hB w.heap.size rfl
   refine ⟨_, w9, fun ty => hr, own9, grow9, fun j hj => ?_⟩
   have e : j = g := by simp [Value.ownBlock] at hj; exact hj.symm
   rcases hg with hg | hg
   ·exact .inl (by rw [hg, e])
   ·exact .inr (by omega)
theorem own_noneQ (w : World) : (w.alloc (.cells #[] 131)).ownsRow w.heap.size 131 2 (.slice (some ⟨w.heap.size, 0, none⟩) 0 0) 0 [] :=
 ⟨rfl, .inr ⟨w.heap.size, 0, #[], rfl, Nat.le_refl _, by show (w.heap.push _)[w.heap.size]? = _; simp, Nat.le_refl _, Nat.zero_le _, rfl, rfl⟩⟩
theorem own_noneI (w : World) : (w.alloc (.cells #[] 2)).ownsRow w.heap.size 2 1 (.slice (some ⟨w.heap.size, 0, none⟩) 0 0) ([] : List Int).length (valsZ []) :=
 ⟨rfl, .inr ⟨w.heap.size, 0, #[], rfl, Nat.le_refl _, by show (w.heap.push _)[w.heap.size]? = _; simp, Nat.le_refl _, Nat.zero_le _, rfl, rfl⟩⟩
set_option maxRecDepth 100000 in
set_option maxHeartbeats 2000000 in
theorem cloI_any (sl : Option Addr) (cap : Nat) (pl : List Int) (w : World) (hn : pl.length ≤ 1048576) (hz : Ints w sl pl) :
  Calls Tryz.prog 151 #[.slice sl pl.length cap] w fun e w' => ∃ v, e = .returned v ∧ w'.ownsRow w.heap.size 2 1 v pl.length (valsZ pl) ∧ Below w.heap.size w w' := by
 cases sl with
 | none =>
  have e : pl = [] := by
   rcases hz with h | ⟨c, o, e, _⟩
   ·exact h
   ·cases e
  subst e
  have hq := fun W : World => Lib.run_eql_slice_nil (P := Tryz.prog) W 34 2 none 0 cap 0 0 Tryz.underlying34
  simp only [Option.isNone_none] at hq
  go_enter Tryz.func151, Tryz.ntmps151
  go_wp2
  go_ret
  exact ⟨_, rfl, ⟨rfl, .inl ⟨rfl, rfl⟩⟩, Below.refl _ _⟩
 | some a =>
  have B0 := Lib.hid (bA0 w (.cells #[] 2))
  obtain ⟨v9, w9, ha, ow, gr, -⟩ := appZ (zs := []) (own_noneI w) cap (hz.below B0.out) B0.out.size (by simp; omega)
  have ha' := ha 34
  have O9 : Hid (w9.ownsRow w.heap.size 2 1 v9 pl.length (valsZ pl)) := by
   have := ow
   rwa [List.nil_append] at this
  have hq := fun W : World => Lib.run_eql_slice_nil (P := Tryz.prog) W 34 2 (some a) pl.length cap 0 0 Tryz.underlying34
  simp only [Option.isNone_some] at hq
  have B9 := Lib.hid (B0.out.grown gr B0.out.size (fun j hj => ((own_noneI w).lt j hj).1))
  clear ha ow gr hz B0
  generalize pl.length = n at *
  go_enter Tryz.func151, Tryz.ntmps151
  go_wp2_with (at_builtin; refine Lib.wpList_append_run _ rfl _ _ _ _ rfl _ _ rfl rfl _ _ ha' ?_)
  go_ret
  exact ⟨_, rfl, O9.out, B9.out⟩
set_option linter.unusedSimpArgs false
structure CpS (w : World) (B : Nat) (v : Value) (a b : List LSt) : Prop where
 r1 : w.ownsRow B 92 3 v (a ++ b).length (stC (a ++ b))
 dom : ∀ r ∈ a, w.ownsRow B 2 1 r.2.2.1 r.2.2.2.length (valsZ r.2.2.2)
 diff : a.Pairwise fun r s => domB r = none ∨ domB r ≠ domB s
theorem CpS.below {w w' : World} {B : Nat} {v : Value} {a b : List LSt} (h : CpS w B v a b) (hb : Below w.heap.size w w') : CpS w' B v a b :=
 ⟨own_below h.r1 hb, fun r hr => own_below (h.dom r hr) hb, h.diff⟩
theorem CpS.fin {w : World} {B C : Nat} {v : Value} {a : List LSt} (h : CpS w B v a []) (hC : C ≤ B) : OwS w C v a := by
 obtain ⟨h1, h2, h3⟩ := h
 rw [List.append_nil] at h1
 exact ⟨own_mono h1 hC, fun r hr => own_mono (h2 r hr) hC, h3⟩
theorem own_apartS {w w' : World} {B : Nat} {e t : TypeId} {m : Nat} {v u : Value} {n k : Nat} {p : Nat} {xs ys : List Value} (h : w.ownsRow B e m v n xs) (h' : w'.ownsRow w.heap.size t p u k ys) : v.ownBlock = none ∨ v.ownBlock ≠ u.ownBlock := by
 cases hv : v.ownBlock with
 | none => exact .inl rfl
 | some j =>
  refine .inr (fun e0 => ?_)
  have h1 := (h.lt j hv).2
  have h2 := (h'.lt j e0.symm).1
  omega
theorem CpS.step {w w1 : World} {B g n cap : Nat} {a b : List LSt} {r : LSt} {vd : Value} (h : CpS w B (.slice (some ⟨g, 0, none⟩) n cap) a (r :: b)) (hn : (a ++ r :: b).length = n) (hb : Below w.heap.size w w1) (hB : B ≤ w.heap.size) (od : w1.ownsRow w.heap.size 2 1 vd r.2.2.2.length (valsZ r.2.2.2)) :
  CpS (w1.setCell ⟨g, a.length * 3 + 2, none⟩ vd) B (.slice (some ⟨g, 0, none⟩) n cap) (a ++ [(r.1, r.2.1, vd, r.2.2.2)]) b := by
 have hl : a.length < n := by rw [← hn]; simp
 have h1 := own_below h.r1 hb
 rw [hn] at h1
 obtain ⟨cur, hg, -⟩ := own_thereS h1
 refine ⟨?_, fun s hs => ?_, ?_⟩
 ·have hn' : (a ++ [(r.1, r.2.1, vd, r.2.2.2)] ++ b).length = n := by rw [← hn]; simp
  rw [hn']
  have := own_setS h1 (a.length * 3 + 2) (by omega) vd
  have e : (stC (a ++ r :: b)).set (a.length * 3 + 2) vd = stC (a ++ [(r.1, r.2.1, vd, r.2.2.2)] ++ b) := by
   have hla := stC_len a
   have e1 : ∀ q : LSt, stC (a ++ q :: b) = stC a ++ (.int .i64 q.1 :: .int .i64 q.2.1 :: q.2.2.1 :: stC b) := fun q => by rw [stC_add, show q :: b = [q] ++ b from rfl, stC_add]; rfl
   rw [List.append_assoc, List.singleton_append, e1, e1, ← hla, List.set_append_right _ _ (by omega)]
   simp
  rw [e] at this
  exact this
 ·rcases List.mem_append.1 hs with hs | hs
  ·have := own_below (h.dom s hs) hb
   exact own_set this (own_kindne this hg (by decide)) _ _
  ·rw [List.mem_singleton.1 hs]
   exact own_set (own_mono od hB) (own_kindne od hg (by decide)) _ _
 ·refine List.pairwise_append.2 ⟨h.diff, List.pairwise_singleton _ _, fun s hs q hq => ?_⟩
  rw [List.mem_singleton.1 hq]
  exact own_apartS (h.dom s hs) od
theorem bareS_app (a b : List LSt) : bareS (a ++ b) = bareS a ++ bareS b := by simp [bareS]
set_option maxRecDepth 100000 in
set_option maxHeartbeats 4000000 in
theorem cpt_any (sl : Option Addr) (cap : Nat) (sl2 : Option Addr) (cap2 : Nat) (rs : List LSt) (ps : List LPr) (w : World) (hn : rs.length ≤ 1048576) (hm : ps.length ≤ 1048576) (hz : Sts w sl rs) (hp : Prs w sl2 ps) :
  Calls Tryz.prog 98 #[TV sl rs.length cap sl2 ps.length cap2] w fun e w' => ∃ v1 v2 rs', e = .returned (.agg #[v1, v2]) ∧ bareS rs' = bareS rs ∧ OwS w' w.heap.size v1 rs' ∧ w'.ownsRow w.heap.size 165 3 v2 ps.length (prC ps) ∧ Below w.heap.size w w' := by
 have HZ := Lib.hid hz
 have C1 : Hid (∀ W, Below w.heap.size w W → Calls Tryz.prog 150 #[.slice sl rs.length cap] W fun e w' => ∃ v, e = .returned v ∧ w'.ownsRow W.heap.size 92 3 v rs.length (stC rs) ∧ Below W.heap.size W w') := fun W hW => cloS_any sl cap rs W hn (hz.below hW)
 have C2 : Hid (∀ s q zs W, zs.length ≤ 1048576 → Ints w s zs → Below w.heap.size w W → Calls Tryz.prog 151 #[.slice s zs.length q] W fun e w' => ∃ v, e = .returned v ∧ w'.ownsRow W.heap.size 2 1 v zs.length (valsZ zs) ∧ Below W.heap.size W w') := fun s q zs W h1 h2 h3 => cloI_any s q zs W h1 (h2.below h3)
 have C3 : Hid (∀ W, Below w.heap.size w W → Calls Tryz.prog 152 #[.slice sl2 ps.length cap2] W fun e w' => ∃ v, e = .returned v ∧ w'.ownsRow W.heap.size 165 3 v ps.length (prC ps) ∧ Below W.heap.size W w') := fun W hW => cloR_any sl2 cap2 ps W hm (hp.below hW)
 clear hz hp
 have HPC : Hid (prC ps = prC ps) := rfl
 generalize hPC : prC ps = PC at *
 clear HPC hPC
 generalize ps.length = m at *
 have B0 := Lib.hid (bA (bA0 w (.cells #[.slice sl rs.length cap, .slice sl2 m cap2] 26)) (.cells #[.slice none 0 0, .slice none 0 0] 26))
 have X0 := Lib.hid ((TabAtD.new w sl rs.length cap sl2 m cap2).below (bA0 _ (.cells #[.slice none 0 0, .slice none 0 0] 26)))
 have R0 : Hid (((w.alloc (.cells #[.slice sl rs.length cap, .slice sl2 m cap2] 26)).alloc (.cells #[.slice none 0 0, .slice none 0 0] 26)).heap[w.heap.size + 1]? = some (.cells #[.slice none 0 0, .slice none 0 0] 26)) := by
  have := new_at (w.alloc (.cells #[.slice sl rs.length cap, .slice sl2 m cap2] 26)) (.cells #[.slice none 0 0, .slice none 0 0] 26)
  rwa [show (w.alloc (.cells #[.slice sl rs.length cap, .slice sl2 m cap2] 26)).heap.size = w.heap.size + 1 by simp] at this
 have hs0 : Hid (((w.alloc (.cells #[.slice sl rs.length cap, .slice sl2 m cap2] 26)).alloc (.cells #[.slice none 0 0, .slice none 0 0] 26)).heap.size = w.heap.size + 2) := by show _ = _; simp
 obtain ⟨t0, t1⟩ := X0.out.cells
 have tl := X0.out.lt
 generalize hN : rs.length = n at *
 have HN := Lib.hid hN
 clear hN
 go_enter Tryz.func98, Tryz.ntmps98
 go_wp2_with fail
 generalize (w.alloc (.cells #[.slice sl n cap, .slice sl2 m cap2] 26)).alloc (.cells #[.slice none 0 0, .slice none 0 0] 26) = w0 at *
 refine (C1.out _ B0.out).mono ?_
 rintro e w1 ⟨v1, rfl, o1, b1⟩
 obtain ⟨vs, vk, rfl⟩ := own_v o1
 have H1 := Lib.hid (bT B0.out b1)
 have X1 := Lib.hid (X0.out.below b1)
 have R1 : Hid (w1.heap[w.heap.size + 1]? = some (.cells #[.slice none 0 0, .slice none 0 0] 26)) := (b1.block _ (by have := hs0.out; omega)).trans R0.out
 have S1 : Hid (CpS w1 (w.heap.size + 2) (.slice vs n vk) [] (rs.drop 0)) := ⟨by simpa [HN.out] using own_mono o1 (Nat.le_of_eq hs0.out.symm), (fun r hr => by cases hr), List.Pairwise.nil⟩
 have hs1 := Lib.hid (show w.heap.size + 2 ≤ w1.heap.size by have := b1.size; have := hs0.out; omega)
 clear o1 b1 C1 B0 X0 R0 hs0 t0 t1 tl
 go_wp2
 go_loopw [11] (fun i wr => ∃ (k : Nat) (a : List LSt), i = .int .i64 k ∧ k ≤ n ∧ Hid (a.length = k ∧ bareS a = bareS (rs.take k)) ∧ Hid (CpS wr (w.heap.size + 2) (.slice vs n vk) a (rs.drop k)) ∧ Hid (Below w.heap.size w wr ∧ w.heap.size + 2 ≤ wr.heap.size) ∧ Hid (TabAtD wr w.heap.size sl n cap sl2 m cap2) ∧ Hid (wr.heap[w.heap.size + 1]? = some (.cells #[.slice none 0 0, .slice none 0 0] 26))) (fun i _ => n - (intOf i).toNat)
 case atStart => exact ⟨0, [], rfl, Nat.zero_le _, ⟨rfl, rfl⟩, S1, ⟨H1.out, hs1.out⟩, X1, R1⟩
 case round =>
  obtain ⟨k, a, rfl, hk, HA, SS, HB, XT, RT⟩ := hrel
  have hk0 : (0 : Int) ≤ (k : Int) := by omega
  by_cases g1 : k < n
  ·have g1' : (k : Int) < (n : Int) := by omega
   have hlt : k < rs.length := by rw [HN.out]; exact g1
   have hdr := List.drop_eq_getElem_cons hlt
   obtain ⟨s, q, ed, hi, hq⟩ := HZ.out.dom _ (List.getElem_mem hlt)
   have TK := Lib.hid (List.take_succ_eq_append_getElem hlt)
   rw [hdr] at SS
   generalize rs[k] = r at *
   have hln : (a ++ r :: rs.drop (k + 1)).length = n := by
    have e1 := congrArg List.length hdr
    simp only [List.length_append, HA.out.1]
    simp at e1 ⊢
    have := HN.out
    omega
   have r1 := SS.out.r1
   rw [hln] at r1
   obtain ⟨g, rfl⟩ : ∃ g, vs = some ⟨g, 0, none⟩ := by
    rcases r1.2 with ⟨_, h0⟩ | ⟨g, c, cur, e, _⟩
    ·omega
    ·exact ⟨g, (Value.slice.inj e).1⟩
   obtain ⟨cur, hg, hgB⟩ := own_thereS r1
   have sa := stC_at (a ++ r :: rs.drop (k + 1)) k (by rw [hln]; exact g1)
   have er : (a ++ r :: rs.drop (k + 1))[k]'(by rw [hln]; exact g1) = r := by
    rw [List.getElem_append_right (by have := HA.out.1; omega)]
    simp [HA.out.1]
   rw [er] at sa
   have c0 := (r1.cellAt (k * 3) (by omega)).trans sa.1
   have c1 := (r1.cellAt (k * 3 + 1) (by omega)).trans sa.2.1
   have c2 := (r1.cellAt (k * 3 + 2) (by omega)).trans sa.2.2
   rw [ed] at c2
   have f0 := (cellsAtS hg).2 (k * 3)
   have gl := (Array.getElem?_eq_some_iff.1 hg).1
   have EC := Lib.hid (C2.out s q r.2.2.2 (wr.alloc (.cells #[.int .i64 r.1, .int .i64 r.2.1, .slice s r.2.2.2.length q] 92)) hq hi (bA HB.out.1 _))
   have NB := Lib.hid (bA0 wr (.cells #[.int .i64 r.1, .int .i64 r.2.1, .slice s r.2.2.2.length q] 92))
   have NX := Lib.hid (new_at wr (.cells #[.int .i64 r.1, .int .i64 r.2.1, .slice s r.2.2.2.length q] 92))
   have HG := Lib.hid (show wr.heap[g]? = some (.cells cur 92) ∧ w.heap.size + 2 ≤ g from ⟨hg, hgB⟩)
   have HLN := Lib.hid hln
   have HDQ := Lib.hid (rfl : r.2.2.2.length = r.2.2.2.length)
   clear sa er r1 hg hln hdr hlt hi hgB
   generalize hqq : r.2.2.2.length = ql at *
   go_wp2_with fail
   generalize wr.alloc (.cells #[.int .i64 r.1, .int .i64 r.2.1, .slice s ql q] 92) = wx at *
   refine EC.out.mono ?_
   rintro e w2 ⟨vd, rfl, od, bd⟩
   have hg2 := (bd.block g (by have := NB.out.size; omega)).trans ((NB.out.block g gl).trans HG.out.1)
   have hgx := (NB.out.block g gl).trans HG.out.1
   have SX := SS.out.below NB.out
   have S2 : Hid (CpS (w2.setCell ⟨g, k * 3 + 2, none⟩ vd) (w.heap.size + 2) (.slice (some ⟨g, 0, none⟩) n vk) (a ++ [(r.1, r.2.1, vd, r.2.2.2)]) (rs.drop (k + 1))) := by
    have := SX.step HLN.out bd (Nat.le_trans HB.out.2 NB.out.size) (by rw [hqq]; exact od)
    rwa [HA.out.1] at this
   obtain ⟨fd, cpd, rfl⟩ := own_v od
   have hsz : cur.size > k * 3 + 2 := by
    have := c2
    simp only [World.cell?, HG.out.1] at this
    exact (Array.getElem?_eq_some_iff.1 this).1
   have d2 : w2.cell? ⟨g, k * 3 + 2, none⟩ = some (.slice s ql q) := by
    simp only [World.cell?, hg2]
    have := c2
    simpa only [World.cell?, HG.out.1] using this
   have f2 := (cellsAtS hg2).2 (k * 3 + 2)
   have gl2 := (Array.getElem?_eq_some_iff.1 hg2).1
   have bx : w2.cell? ⟨wr.heap.size, 2, none⟩ = some (.slice s ql q) := by
    have := (bd.block wr.heap.size (Array.getElem?_eq_some_iff.1 NX.out).1).trans NX.out
    simp [World.cell?, this]
   have HB2 : Hid (Below w.heap.size w (w2.setCell ⟨g, k * 3 + 2, none⟩ (.slice fd ql cpd)) ∧ w.heap.size + 2 ≤ (w2.setCell ⟨g, k * 3 + 2, none⟩ (.slice fd ql cpd)).heap.size) := by
    refine ⟨(bT (bT HB.out.1 NB.out) bd).setCell (p := ⟨g, k * 3 + 2, none⟩) (by have := HG.out.2; show w.heap.size ≤ g; omega) _, ?_⟩
    have := bd.size
    have := NB.out.size
    have := HB.out.2
    simp [World.setCell]
    omega
   have X2 : Hid (TabAtD (w2.setCell ⟨g, k * 3 + 2, none⟩ (.slice fd ql cpd)) w.heap.size sl n cap sl2 m cap2) := (Below.heap_setCell _ _ _ _ (by have := HG.out.2; show w.heap.size ≠ g; omega)).trans ((XT.out.below NB.out).below bd)
   have R2 : Hid ((w2.setCell ⟨g, k * 3 + 2, none⟩ (.slice fd ql cpd)).heap[w.heap.size + 1]? = some (.cells #[.slice none 0 0, .slice none 0 0] 26)) := (Below.heap_setCell _ _ _ _ (by have := HG.out.2; show w.heap.size + 1 ≠ g; omega)).trans ((bd.block _ (by have := NB.out.size; have := HB.out.2; omega)).trans ((NB.out.block _ (by have := HB.out.2; omega)).trans RT.out))
   have A2 : Hid ((a ++ [(r.1, r.2.1, Value.slice fd ql cpd, r.2.2.2)]).length = k + 1 ∧ bareS (a ++ [(r.1, r.2.1, Value.slice fd ql cpd, r.2.2.2)]) = bareS (rs.take (k + 1))) := by
    refine ⟨by rw [List.length_append, HA.out.1]; rfl, ?_⟩
    rw [TK.out, bareS_app, bareS_app, HA.out.2]
    rfl
   clear od bd SX EC NB NX hg2 hgx HG SS XT RT c0 c1 c2 f0 gl hsz HDQ ed TK
   go_wp2
   go_roundw
   case rel => exact ⟨k + 1, _, by go_num, by omega, A2, S2, HB2, X2, R2⟩
   case measure => simp [intOf]; omega
  ·have g1' : ¬ (k : Int) < (n : Int) := by omega
   have hkn : k = n := by omega
   have AF : Hid (bareS a = bareS rs ∧ a.length = n ∧ OwS wr w.heap.size (.slice vs n vk) a) := by
    have h1 := HA.out.2
    rw [List.take_of_length_le (by rw [HN.out]; omega)] at h1
    have h2 := SS.out
    rw [List.drop_of_length_le (by rw [HN.out]; omega)] at h2
    exact ⟨h1, by rw [HA.out.1]; exact hkn, h2.fin (by omega)⟩
   clear SS HA
   obtain ⟨t0, t1⟩ := XT.out.cells
   have tl := XT.out.lt
   go_wp2_with fail
   refine (C3.out _ HB.out.1).mono ?_
   rintro e w3 ⟨v2, rfl, o3, b3⟩
   obtain ⟨us, uk, rfl⟩ := own_v o3
   have RX := (b3.block _ (Array.getElem?_eq_some_iff.1 RT.out).1).trans RT.out
   have rl := (Array.getElem?_eq_some_iff.1 RX).1
   have rc := cellsAtS RX
   have rc0 : w3.cell? ⟨w.heap.size + 1, 0, none⟩ = some (.slice none 0 0) := by simp [World.cell?, RX]
   have rc1 : w3.cell? ⟨w.heap.size + 1, 1, none⟩ = some (.slice none 0 0) := by simp [World.cell?, RX]
   have rf := rc.2
   have HB3 : Hid (Below w.heap.size w w3) := bT HB.out.1 b3
   have A3 := Lib.hid (AF.out.2.2.below b3)
   have O3 := Lib.hid (own_mono o3 (Nat.le_trans (Nat.le_add_right _ 2) HB.out.2))
   have QQ := Lib.hid (show ∀ (u0 u1 : Value), OwS ((w3.setCell ⟨w.heap.size + 1, 0, none⟩ u0).setCell ⟨w.heap.size + 1, 1, none⟩ u1) w.heap.size (.slice vs n vk) a ∧ ((w3.setCell ⟨w.heap.size + 1, 0, none⟩ u0).setCell ⟨w.heap.size + 1, 1, none⟩ u1).ownsRow w.heap.size 165 3 (.slice us m uk) m PC ∧ Below w.heap.size w ((w3.setCell ⟨w.heap.size + 1, 0, none⟩ u0).setCell ⟨w.heap.size + 1, 1, none⟩ u1) from fun u0 u1 => by
    have hx := heap_setCell_same w3 (w.heap.size + 1) 0 _ 26 u0 RX
    refine ⟨⟨?_, fun r hr => ?_, A3.out.diff⟩, ?_, (HB3.out.setCell (p := ⟨w.heap.size + 1, 0, none⟩) (Nat.le_succ _) u0).setCell (p := ⟨w.heap.size + 1, 1, none⟩) (Nat.le_succ _) u1⟩
    ·exact own_set (own_set A3.out.r1 (own_kindne A3.out.r1 RX (by decide)) _ _) (own_kindne A3.out.r1 RX (by decide)) _ _
    ·exact own_set (own_set (A3.out.dom r hr) (own_kindne (A3.out.dom r hr) RX (by decide)) _ _) (own_kindne (A3.out.dom r hr) RX (by decide)) _ _
    ·exact own_set (own_set O3.out (own_kindne O3.out RX (by decide)) _ _) (own_kindne O3.out RX (by decide)) _ _)
   clear RX rc o3 b3 A3 O3 HB3 HB XT RT t0 t1 tl
   have QF := Lib.hid (QQ.out (.slice vs n vk) (.slice us m uk))
   clear QQ
   go_wp2
   exact bodyPost_ret (v := .agg #[.slice vs n vk, .slice us m uk]) (by simp [results, Tryz.results98, go_sem, rc0, rc1]) rfl ⟨_, _, a, rfl, AF.out.1, QF.out.1, QF.out.2.1, QF.out.2.2⟩
set_option linter.unusedSimpArgs false
def NumR (top pr st bu : Int) : Prop := (2 ≤ top ∧ top ≤ 51) ∧ (0 ≤ pr ∧ pr ≤ 1000000) ∧ (1 ≤ st ∧ st ≤ 1000000) ∧ BudR bu
set_option maxHeartbeats 2000000 in
theorem num_any (top pr st bu : Int) (w : World) : Calls Tryz.prog 97 #[.int .i64 top, .int .i64 pr, .int .i64 st, .int .i64 bu] w fun e w' => e = .returned (.bool (B (NumR top pr st bu))) ∧ w = w' := by
 have E := Lib.hid (bud_any bu)
 by_cases h1 : 2 ≤ top
 case neg =>
  rw [B_no (fun h => h1 h.1.1)]
  go_enter Tryz.func97, Tryz.ntmps97
  go_wp2
  go_ret
  exact ⟨rfl, rfl⟩
 by_cases h2 : top ≤ 51
 case neg =>
  rw [B_no (fun h => h2 h.1.2)]
  go_enter Tryz.func97, Tryz.ntmps97
  go_wp2
  go_ret
  exact ⟨rfl, rfl⟩
 by_cases h3 : 0 ≤ pr
 case neg =>
  rw [B_no (fun h => h3 h.2.1.1)]
  go_enter Tryz.func97, Tryz.ntmps97
  go_wp2
  go_ret
  exact ⟨rfl, rfl⟩
 by_cases h4 : pr ≤ 1000000
 case neg =>
  rw [B_no (fun h => h4 h.2.1.2)]
  go_enter Tryz.func97, Tryz.ntmps97
  go_wp2
  go_ret
  exact ⟨rfl, rfl⟩
 by_cases h5 : 1 ≤ st
 case neg =>
  rw [B_no (fun h => h5 h.2.2.1.1)]
  go_enter Tryz.func97, Tryz.ntmps97
  go_wp2
  go_ret
  exact ⟨rfl, rfl⟩
 by_cases h6 : st ≤ 1000000
 case neg =>
  rw [B_no (fun h => h6 h.2.2.1.2)]
  go_enter Tryz.func97, Tryz.ntmps97
  go_wp2
  go_ret
  exact ⟨rfl, rfl⟩
 have hb : B (NumR top pr st bu) = B (BudR bu) := B_iff ⟨fun h => h.2.2.2, fun h => ⟨⟨h1, h2⟩, ⟨h3, h4⟩, ⟨h5, h6⟩, h⟩⟩
 rw [hb]
 clear hb
 generalize B (BudR bu) = r at *
 go_enter Tryz.func97, Tryz.ntmps97
 go_wp2_with fail
 refine (E.out _).mono ?_
 rintro e w1 ⟨rfl, rfl⟩
 go_wp2
 go_ret
 exact ⟨rfl, rfl⟩
set_option maxHeartbeats 2000000 in
theorem snum_any (top pr st bu : Int) (w : World) : Calls Tryz.prog 96 #[.int .i64 top, .int .i64 pr, .int .i64 st, .int .i64 bu] w fun e w' => e = .returned (.bool (B (NumR top pr st bu))) ∧ w = w' := by
 have E := Lib.hid (sbd_any bu)
 by_cases h1 : 2 ≤ top
 case neg =>
  rw [B_no (fun h => h1 h.1.1)]
  go_enter Tryz.func96, Tryz.ntmps96
  go_wp2
  go_ret
  exact ⟨rfl, rfl⟩
 by_cases h2 : top ≤ 51
 case neg =>
  rw [B_no (fun h => h2 h.1.2)]
  go_enter Tryz.func96, Tryz.ntmps96
  go_wp2
  go_ret
  exact ⟨rfl, rfl⟩
 by_cases h3 : 0 ≤ pr
 case neg =>
  rw [B_no (fun h => h3 h.2.1.1)]
  go_enter Tryz.func96, Tryz.ntmps96
  go_wp2
  go_ret
  exact ⟨rfl, rfl⟩
 by_cases h4 : pr ≤ 1000000
 case neg =>
  rw [B_no (fun h => h4 h.2.1.2)]
  go_enter Tryz.func96, Tryz.ntmps96
  go_wp2
  go_ret
  exact ⟨rfl, rfl⟩
 by_cases h5 : 1 ≤ st
 case neg =>
  rw [B_no (fun h => h5 h.2.2.1.1)]
  go_enter Tryz.func96, Tryz.ntmps96
  go_wp2
  go_ret
  exact ⟨rfl, rfl⟩
 by_cases h6 : st ≤ 1000000
 case neg =>
  rw [B_no (fun h => h6 h.2.2.1.2)]
  go_enter Tryz.func96, Tryz.ntmps96
  go_wp2
  go_ret
  exact ⟨rfl, rfl⟩
 have hb : B (NumR top pr st bu) = B (BudR bu) := B_iff ⟨fun h => h.2.2.2, fun h => ⟨⟨h1, h2⟩, ⟨h3, h4⟩, ⟨h5, h6⟩, h⟩⟩
 rw [hb]
 clear hb
 generalize B (BudR bu) = r at *
 go_enter Tryz.func96, Tryz.ntmps96
 go_wp2_with fail
 refine (E.out _).mono ?_
 rintro e w1 ⟨rfl, rfl⟩
 go_wp2
 go_ret
 exact ⟨rfl, rfl⟩
theorem cell_three_newQ (w : World) (t : TypeId) (x y z : Value) : ∀ (j : Nat) (u : Value), [x, y, z][j]? = some u → (w.alloc (.cells #[x, y, z] t)).cell? ((⟨w.heap.size, 0, none⟩ : Addr).add j) = some u := by
 intro j u hu
 rw [at_add, (cellsAtS (new_at w (.cells #[x, y, z] t))).1, Nat.zero_add]
 simpa using hu
theorem drewH {w : World} {b : Nat} {o : Obj} (h : w.heap[b]? = some o) : w.drew.heap[b]? = some o := h
theorem app1D {w : World} {B : Nat} {v : Value} {n : Nat} {xs : List Value} (h : w.ownsRow B 103 3 v n xs) (x y z : Value) (hB : B ≤ w.heap.size) (hl : n ≤ 10000000) (ho : x.oneCell' = true ∧ y.oneCell' = true ∧ z.oneCell' = true) :
  ∃ v9 w9, (∀ ty, (Builtin.append_ #[27, 27] ty #[v, .slice (some ⟨w.heap.size, 0, none⟩) 1 1]).run Tryz.prog (w.alloc (.cells #[x, y, z] 103)) = .ok v9 w9) ∧ w9.ownsRow B 103 3 v9 (n + 1) (xs ++ [x, y, z]) ∧ (w.alloc (.cells #[x, y, z] 103)).grownBy w9 v.ownBlock ∧ (∀ j, v9.ownBlock = some j → v.ownBlock = some j ∨ j = w.heap.size + 1) := by
 obtain ⟨i3, hi3, hd0, hd1, hd2⟩ := info_parts infoB
 have h' := own_below h (bA0 w (.cells #[x, y, z] 103))
 obtain ⟨g, c9, w9, hr, own9, grow9, hg, -⟩ := run_append_lies (P := Tryz.prog) (w.alloc (.cells #[x, y, z] 103)) 27 27 B 103 i3 (.agg #[.int .i64 0, .int .i64 0, .int .i64 0]) 3 24 Tryz.underlying27 hi3 hd0 hd1 hd2 rfl (by decide) _ _ _ h' ⟨w.heap.size, 0, none⟩ 1 1 [x, y, z] rfl (cell_three_newQ _ _ _ _ _) (by intro u hu; simp at hu; rcases hu with rfl | rfl | rfl <;> simp [ho]) (by decide) (by unfold maxLen; omega) (by omega) (by simp; omega) (w.heap.size + 1) (by simp)
 refine ⟨_, w9, fun ty => hr, own9, grow9, fun j hj => ?_⟩
 have e : j = g := by simp [Value.ownBlock] at hj; exact hj.symm
 rcases hg with hg | hg
 ·exact .inl (by rw [hg, e])
 ·exact .inr (by omega)
theorem app1S {w : World} {B : Nat} {v : Value} {n : Nat} {xs : List Value} (h : w.ownsRow B 92 3 v n xs) (x y z : Value) (hB : B ≤ w.heap.size) (hl : n ≤ 10000000) (ho : x.oneCell' = true ∧ y.oneCell' = true ∧ z.oneCell' = true) :
  ∃ v9 w9, (∀ ty, (Builtin.append_ #[23, 23] ty #[v, .slice (some ⟨w.heap.size, 0, none⟩) 1 1]).run Tryz.prog (w.alloc (.cells #[x, y, z] 92)) = .ok v9 w9) ∧ w9.ownsRow B 92 3 v9 (n + 1) (xs ++ [x, y, z]) ∧ (w.alloc (.cells #[x, y, z] 92)).grownBy w9 v.ownBlock ∧ (∀ j, v9.ownBlock = some j → v.ownBlock = some j ∨ j = w.heap.size + 1) := by
 obtain ⟨i3, hi3, hd0, hd1, hd2⟩ := info_parts info54
 have h' := own_below h (bA0 w (.cells #[x, y, z] 92))
 obtain ⟨g, c9, w9, hr, own9, grow9, hg, -⟩ := run_append_lies (P := Tryz.prog) (w.alloc (.cells #[x, y, z] 92)) 23 23 B 92 i3 (.agg #[.int .i64 0, .int .i64 0, .slice none 0 0]) 3 40 Tryz.underlying23 hi3 hd0 hd1 hd2 rfl (by decide) _ _ _ h' ⟨w.heap.size, 0, none⟩ 1 1 [x, y, z] rfl (cell_three_newQ _ _ _ _ _) (by intro u hu; simp at hu; rcases hu with rfl | rfl | rfl <;> simp [ho]) (by decide) (by unfold maxLen; omega) (by omega) (by simp; omega) (w.heap.size + 1) (by simp)
 refine ⟨_, w9, fun ty => hr, own9, grow9, fun j hj => ?_⟩
 have e : j = g := by simp [Value.ownBlock] at hj; exact hj.symm
 rcases hg with hg | hg
 ·exact .inl (by rw [hg, e])
 ·exact .inr (by omega)
def bidF (pr : Int) (ids : List Int) (L : List (Int × Int × List Int)) : List LPr := L.map fun r => if r.1 ∈ ids then (r.1, 3, 0) else (r.1, 1, IntKind.i64.wrap (r.2.1 * pr))
theorem bidF_len (pr : Int) (ids : List Int) (L : List (Int × Int × List Int)) : (bidF pr ids L).length = L.length := by simp [bidF]
theorem bareS_lenQ (rs : List LSt) : (bareS rs).length = rs.length := by simp [bareS]
theorem prC_oneQ (p : LPr) : prC [p] = [.int .i64 p.1, .int .i64 p.2.1, .int .i64 p.2.2] := rfl
theorem bidF_step (pr : Int) (ids : List Int) (rs : List LSt) (k : Nat) (h : k < rs.length) : prC ((bidF pr ids (bareS rs)).take (k + 1)) = prC ((bidF pr ids (bareS rs)).take k) ++ prC [if rs[k].1 ∈ ids then (rs[k].1, 3, 0) else (rs[k].1, 1, IntKind.i64.wrap (rs[k].2.1 * pr))] := by
 have h2 : k < (bidF pr ids (bareS rs)).length := by rw [bidF_len, bareS_lenQ]; exact h
 rw [List.take_succ_eq_append_getElem h2, prC_add]
 congr 1
 simp [bidF, bareS]
set_option maxRecDepth 100000 in
set_option maxHeartbeats 1000000 in
theorem tak_any (s a b c p : Int) (W : World) : Calls Tryz.prog 153 #[.int .i64 s, .agg #[.int .i64 a, .int .i64 b, .int .i64 c], .int .i64 p] W fun e w' => e = .returned (.agg #[.int .i64 a, .int .i64 s, .int .i64 p]) ∧ Below W.heap.size W w' := by
 go_enter Tryz.func153, Tryz.ntmps153
 go_wp2
 exact bodyPost_ret (v := .agg #[.int .i64 a, .int .i64 s, .int .i64 p]) (by simp [results, Tryz.results153, go_sem]) rfl ⟨rfl, bA (bA0 _ _) _⟩
set_option maxRecDepth 100000 in
set_option maxHeartbeats 4000000 in
theorem obd_any (sl : Option Addr) (cap : Nat) (sl2 : Option Addr) (m cap2 : Nat) (pr : Int) (sl3 : Option Addr) (cap3 : Nat) (rs : List LSt) (ids : List Int) (w : World) (hn : rs.length ≤ 1048576) (hl : ids.length ≤ 1048576) (hz : Sts w sl rs) (hi : Ints w sl3 ids) :
  Calls Tryz.prog 99 #[TV sl rs.length cap sl2 m cap2, .int .i64 pr, .slice sl3 ids.length cap3] w fun e w' => ∃ v, e = .returned v ∧ w'.ownsRow w.heap.size 103 3 v rs.length (prC (bidF pr ids (bareS rs))) ∧ Below w.heap.size w w' := by
 have HZ := Lib.hid hz
 have C2 : Hid (∀ x W, Below w.heap.size w W → Calls Tryz.prog 128 #[.slice sl3 ids.length cap3, .int .i64 x] W fun e w' => e = .returned (.bool (B (x ∈ ids))) ∧ Below W.heap.size W w') := fun x W hW => has_any sl3 cap3 x ids W hl (hi.below hW)
 clear hz hi
 generalize ids.length = q at *
 generalize hN : rs.length = n at *
 have HN := Lib.hid hN
 clear hN
 have B0 := Lib.hid (bA0 w (.cells #[.slice sl n cap, .slice sl2 m cap2] 26))
 go_enter Tryz.func99, Tryz.ntmps99
 go_wp2
 generalize w.alloc (.cells #[.slice sl n cap, .slice sl2 m cap2] 26) = w0 at *
 go_loopw [7, 15] (fun v i wr => ∃ k : Nat, i = .int .i64 k ∧ k ≤ n ∧ Hid (wr.ownsRow w.heap.size 103 3 v k (prC ((bidF pr ids (bareS rs)).take k))) ∧ Hid (Below w.heap.size w wr)) (fun _ i _ => n - (intOf i).toNat)
 case atStart => exact ⟨0, rfl, Nat.zero_le _, ⟨rfl, .inl ⟨rfl, rfl⟩⟩, B0⟩
 case round =>
  obtain ⟨k, rfl, hk, OR, HB⟩ := hrel
  obtain ⟨vsl, vcap, rfl⟩ := own_v OR.out
  have hk0 : (0 : Int) ≤ (k : Int) := by omega
  by_cases g1 : k < n
  ·have g1' : (k : Int) < (n : Int) := by omega
   have hlt : k < rs.length := by rw [HN.out]; exact g1
   obtain ⟨g, o, rfl, Z⟩ : ∃ c o, sl = some ⟨c, o, none⟩ ∧ StAt w c o rs := by
    rcases HZ.out.row with e | h
    ·rw [e] at hlt; simp at hlt
    ·exact h
   have BS0 := bidF_step pr ids rs k hlt
   obtain ⟨c0, c1, c2⟩ := (Z.below HB.out).cell k hlt
   have gl := (Z.below HB.out).lt
   obtain ⟨s, cp, ed, -, -⟩ := HZ.out.dom _ (List.getElem_mem hlt)
   rw [ed] at c2
   generalize rs[k].2.2.2.length = ql at *
   generalize rs[k].1 = x at *
   generalize rs[k].2.1 = y at *
   clear ed hlt Z
   have NB := Lib.hid (bA0 wr (.cells #[.int .i64 x, .int .i64 y, .slice s ql cp] 92))
   have NX := Lib.hid (new_at wr (.cells #[.int .i64 x, .int .i64 y, .slice s ql cp] 92))
   have KX0 : Hid ((fun W : World => wr.heap.size < W.heap.size ∧ W.cell? ⟨wr.heap.size, 0, none⟩ = some (.int .i64 x) ∧ W.cell? ⟨wr.heap.size, 1, none⟩ = some (.int .i64 y)) (wr.alloc (.cells #[.int .i64 x, .int .i64 y, .slice s ql cp] 92)).drew) := ⟨(Array.getElem?_eq_some_iff.1 NX.out).1, ((cellsAtS (drewH NX.out)).1 0).trans rfl, ((cellsAtS (drewH NX.out)).1 1).trans rfl⟩
   have E2a : Hid (∀ W, Below w.heap.size w W → Calls Tryz.prog 128 #[.slice sl3 q cap3, .int .i64 x] W fun e w' => e = .returned (.bool (B (x ∈ ids))) ∧ Below W.heap.size W w') := C2.out x
   go_wp2_with fail
   refine wp_region_held_drew (S := fun W => wr.heap.size < W.heap.size ∧ W.cell? ⟨wr.heap.size, 0, none⟩ = some (.int .i64 x) ∧ W.cell? ⟨wr.heap.size, 1, none⟩ = some (.int .i64 y)) (by kernel_rfl) ?_ (fun hHeld => ?_)
   ·exact KX0.out
   generalize hwy : (wr.alloc (.cells #[.int .i64 x, .int .i64 y, .slice s ql cp] 92)).drew = wy at *
   have KX : Hid (wr.heap.size < wy.heap.size ∧ wy.cell? ⟨wr.heap.size, 0, none⟩ = some (.int .i64 x) ∧ wy.cell? ⟨wr.heap.size, 1, none⟩ = some (.int .i64 y)) := by have := KX0.out; exact this
   have NB2 : Hid (Below wr.heap.size wr wy) := by rw [← hwy]; exact NB.out.drew
   clear NB KX0 NX
   have NB := NB2
   clear NB2 hwy
   refine wpAnyH_take (i := 0) (oi := _) (v := ?_) rfl (by kernel_rfl) (by kernel_rfl) (by kernel_rfl) (fun _ _ _ h => h) (Or.inl ⟨by rfl, ?_⟩) (by assumption) ?_
   rotate_left
   ·intro w hSw; (try dsimp only at hSw); go_simp; try with_reducible rfl
   try simp only [Act.put, setIfInBounds_toArray, set_cons_zero, set_cons_succ, getElem_toArray, getElem_cons_zero]
   refine wpAnyH_take (i := 1) (oi := _) (v := ?_) rfl (by kernel_rfl) (by kernel_rfl) (by kernel_rfl) (fun _ _ _ h => h) (Or.inl ⟨by rfl, ?_⟩) (by assumption) ?_
   rotate_left
   ·intro w hSw; (try dsimp only at hSw); go_simp; try with_reducible rfl
   try simp only [Act.put, setIfInBounds_toArray, set_cons_zero, set_cons_succ, getElem_toArray, getElem_cons_succ, getElem_cons_zero]
   refine wpAnyH_take (i := 2) (oi := _) (v := ?_) rfl (by kernel_rfl) (by kernel_rfl) (by kernel_rfl) (fun _ _ _ h => h) (Or.inl ⟨by rfl, ?_⟩) (by assumption) ?_
   rotate_left
   ·intro w hSw; (try dsimp only at hSw); go_simp; try with_reducible rfl
   try simp only [Act.put, setIfInBounds_toArray, set_cons_zero, set_cons_succ, getElem_toArray, getElem_cons_succ, getElem_cons_zero]
   refine wpAnyH_take (i := 3) (oi := _) (v := ?_) rfl (by kernel_rfl) (by kernel_rfl) (by kernel_rfl) (fun _ _ _ h => h) (Or.inl ⟨by rfl, ?_⟩) (by assumption) ?_
   rotate_left
   ·intro w hSw; (try dsimp only at hSw); go_simp; try with_reducible rfl
   try simp only [Act.put, setIfInBounds_toArray, set_cons_zero, set_cons_succ, getElem_toArray, getElem_cons_succ, getElem_cons_zero]
   refine wpAnyH_take (i := 4) (oi := _) (v := ?_) rfl (by kernel_rfl) (by kernel_rfl) (by kernel_rfl) (fun _ _ _ h => h) (Or.inl ⟨by rfl, ?_⟩) (by assumption) ?_
   rotate_left
   ·intro w hSw; (try dsimp only at hSw); go_simp; try with_reducible rfl
   try simp only [Act.put, setIfInBounds_toArray, set_cons_zero, set_cons_succ, getElem_toArray, getElem_cons_succ, getElem_cons_zero]
   refine wpAnyH_take (i := 5) (oi := _) (v := ?_) rfl (by kernel_rfl) (by kernel_rfl) (by kernel_rfl) (fun _ _ _ h => h) (Or.inl ⟨by rfl, ?_⟩) (by assumption) ?_
   rotate_left
   ·intro w hSw; (try dsimp only at hSw); go_simp; try with_reducible rfl
   try simp only [Act.put, setIfInBounds_toArray, set_cons_zero, set_cons_succ, getElem_toArray, getElem_cons_succ, getElem_cons_zero]
   refine wpAnyH_take (i := 6) (oi := _) (v := ?_) rfl (by kernel_rfl) (by kernel_rfl) (by kernel_rfl) (fun _ _ _ h => h) (Or.inl ⟨by rfl, ?_⟩) (by assumption) ?_
   rotate_left
   ·intro w hSw; (try dsimp only at hSw); go_simp; try with_reducible rfl
   try simp only [Act.put, setIfInBounds_toArray, set_cons_zero, set_cons_succ, getElem_toArray, getElem_cons_succ, getElem_cons_zero]
   refine wpAnyH_done (by kernel_rfl) ?_ _
   clear hHeld c0 c1 c2 gl
   obtain ⟨bxl0, bxc0, bxc1⟩ := KX.out
   have E2 := Lib.hid (E2a.out wy (bT HB.out NB.out))
   clear E2a
   generalize hzz : IntKind.i64.wrap (y * pr) = z at *
   by_cases hx : x ∈ ids
   ·have BS := Lib.hid BS0
    rw [if_pos hx, prC_oneQ] at BS
    rw [B_yes hx] at E2
    clear BS0
    go_wp2_with fail
    refine E2.out.mono ?_
    rintro e w3 ⟨rfl, b3⟩
    have OR3 := Lib.hid (own_below (own_below OR.out NB.out) b3)
    have B3 := Lib.hid (bT (bT HB.out NB.out) b3)
    have bxl := Nat.lt_of_lt_of_le (show wr.heap.size < wy.heap.size from KX.out.1) b3.size
    have bx0 := (b3.cell (p := ⟨wr.heap.size, 0, none⟩) KX.out.1).trans KX.out.2.1
    have hs3 := Lib.hid (show wr.heap.size < w3.heap.size from bxl)
    clear b3 E2
    go_wp2_with fail
    refine (tak_any 3 x 0 0 0 _).mono ?_
    rintro e w4 ⟨rfl, b4⟩
    obtain ⟨v9, w9, ha, own9, grow9, -⟩ := app1D (own_below OR3.out b4) (.int .i64 x) (.int .i64 3) (.int .i64 0) (Nat.le_trans (Nat.le_of_lt (Nat.lt_of_le_of_lt HB.out.size hs3.out)) b4.size) (by omega) ⟨rfl, rfl, rfl⟩
    have HA9 := Lib.hid (ha 27)
    have O9 : Hid (w9.ownsRow w.heap.size 103 3 v9 (k + 1) (prC ((bidF pr ids (bareS rs)).take (k + 1)))) := by
     have := own9
     rw [BS.out]
     exact this
    have B9 : Hid (Below w.heap.size w w9) := (bA (bT B3.out b4) _).grown grow9 (by have := B3.out.size; have := b4.size; simp; omega) (fun j hj => (OR3.out.lt j hj).1)
    clear ha own9 grow9 OR OR3 B3 BS b4 HB KX
    go_wp2_with (at_builtin; refine Lib.wpList_append_run _ rfl _ _ _ _ rfl _ _ rfl rfl _ _ HA9.out ?_)
    go_roundw
    case rel => exact ⟨k + 1, by go_num, by omega, O9, B9⟩
    case measure => simp [intOf]; omega
   ·have BS := Lib.hid BS0
    rw [if_neg hx, prC_oneQ] at BS
    rw [B_no hx] at E2
    clear BS0
    go_wp2_with fail
    refine E2.out.mono ?_
    rintro e w3 ⟨rfl, b3⟩
    have OR3 := Lib.hid (own_below (own_below OR.out NB.out) b3)
    have B3 := Lib.hid (bT (bT HB.out NB.out) b3)
    have bxl := Nat.lt_of_lt_of_le (show wr.heap.size < wy.heap.size from KX.out.1) b3.size
    have bx0 := (b3.cell (p := ⟨wr.heap.size, 0, none⟩) KX.out.1).trans KX.out.2.1
    have hs3 := Lib.hid (show wr.heap.size < w3.heap.size from bxl)
    clear b3 E2
    go_wp2_with fail
    refine (tak_any 1 x 0 0 z _).mono ?_
    rintro e w4 ⟨rfl, b4⟩
    obtain ⟨v9, w9, ha, own9, grow9, -⟩ := app1D (own_below OR3.out b4) (.int .i64 x) (.int .i64 1) (.int .i64 z) (Nat.le_trans (Nat.le_of_lt (Nat.lt_of_le_of_lt HB.out.size hs3.out)) b4.size) (by omega) ⟨rfl, rfl, rfl⟩
    have HA9 := Lib.hid (ha 27)
    have O9 : Hid (w9.ownsRow w.heap.size 103 3 v9 (k + 1) (prC ((bidF pr ids (bareS rs)).take (k + 1)))) := by
     have := own9
     rw [BS.out]
     exact this
    have B9 : Hid (Below w.heap.size w w9) := (bA (bT B3.out b4) _).grown grow9 (by have := B3.out.size; have := b4.size; simp; omega) (fun j hj => (OR3.out.lt j hj).1)
    clear ha own9 grow9 OR OR3 B3 BS b4 HB KX
    go_wp2_with (at_builtin; refine Lib.wpList_append_run _ rfl _ _ _ _ rfl _ _ rfl rfl _ _ HA9.out ?_)
    go_roundw
    case rel => exact ⟨k + 1, by go_num, by omega, O9, B9⟩
    case measure => simp [intOf]; omega
  ·have g1' : ¬ (k : Int) < (n : Int) := by omega
   have hkn : k = n := by omega
   subst hkn
   have OF : Hid (wr.ownsRow w.heap.size 103 3 (.slice vsl k vcap) k (prC (bidF pr ids (bareS rs)))) := by
    have h := OR.out
    rwa [List.take_of_length_le (by rw [bidF_len, bareS_lenQ, HN.out]; exact Nat.le_refl _)] at h
   clear OR
   go_wp2
   go_ret
   exact ⟨_, rfl, OF.out, HB.out⟩
end Go.Proofs.YtnihhbfgbilimaaGreatDoor
