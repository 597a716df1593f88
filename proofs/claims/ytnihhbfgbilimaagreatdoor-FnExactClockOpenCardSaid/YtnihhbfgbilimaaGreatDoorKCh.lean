import Derived.Test.YtnihhbfgbilimaaGreatDoorWag
import Derived.Test.YtnihhbfgbilimaaGreatDoorZCd
import Derived.Test.YtnihhbfgbilimaaGreatDoorKCc
namespace Go.Proofs.YtnihhbfgbilimaaGreatDoor
open Go.RowKit
set_option linter.unusedVariables false
set_option linter.unusedSimpArgs false
theorem OwS.add {w W w9 : World} {B : Nat} {v v9 vd : Value} {a : List LSt} {x y : Int} {ds : List Int} (h : OwS w B v a) (hb : Below w.heap.size w W) (od : W.ownsRow w.heap.size 2 1 vd ds.length (valsZ ds)) (hB : B ≤ w.heap.size) (hg : W.grownBy w9 v.ownBlock) (own9 : w9.ownsRow B 92 3 v9 (a.length + 1) (stC a ++ [.int .i64 x, .int .i64 y, vd])) : OwS w9 B v9 (a ++ [(x, y, vd, ds)]) := by
 have hW := h.below hb
 refine ⟨?_, fun s hs => ?_, ?_⟩
 ·rw [List.length_append, stC_add]
  exact own9
 ·rcases List.mem_append.1 hs with hs | hs
  ·exact (hW.dom s hs).kept hg (own_diff (hW.dom s hs) hW.r1 (by decide))
  ·rw [List.mem_singleton.1 hs]
   exact own_mono (od.kept hg (own_diff od hW.r1 (by decide))) hB
 ·refine List.pairwise_append.2 ⟨h.diff, List.pairwise_singleton _ _, fun s hs q hq => ?_⟩
  rw [List.mem_singleton.1 hq]
  exact own_apartS (h.dom s hs) od
theorem OwS.set1 {w : World} {B b i : Nat} {v : Value} {a : List LSt} {t : TypeId} {cur : Array Value} (h : OwS w B v a) (hb : w.heap[b]? = some (.cells cur t)) (ht : (92 : TypeId) ≠ t ∧ (2 : TypeId) ≠ t) (u : Value) : OwS (w.setCell ⟨b, i, none⟩ u) B v a :=
 ⟨own_set h.r1 (own_kindne h.r1 hb ht.1) _ _, fun r hr => own_set (h.dom r hr) (own_kindne (h.dom r hr) hb ht.2) _ _, h.diff⟩
theorem s92_facts {w : World} {b : Nat} {x y : Int} {v : Value} (h : w.heap[b]? = some (.cells #[.int .i64 x, .int .i64 y, v] 92)) : b < w.heap.size ∧ w.cell? ⟨b, 0, none⟩ = some (.int .i64 x) ∧ w.cell? ⟨b, 1, none⟩ = some (.int .i64 y) ∧ w.cell? ⟨b, 2, none⟩ = some v ∧ ∀ o, w.frozen? ⟨b, o, none⟩ = false := by
 refine ⟨(Array.getElem?_eq_some_iff.1 h).1, ?_, ?_, ?_, fun o => ?_⟩ <;> simp [World.cell?, World.frozen?, h]
def set8 (w : World) (b : Nat) (u0 u1 u2 u3 u4 u5 u6 u7 : Value) : World := ((((((((w.setCell ⟨b, 0, none⟩ u0).setCell ⟨b, 1, none⟩ u1).setCell ⟨b, 2, none⟩ u2).setCell ⟨b, 3, none⟩ u3).setCell ⟨b, 4, none⟩ u4).setCell ⟨b, 5, none⟩ u5).setCell ⟨b, 6, none⟩ u6).setCell ⟨b, 7, none⟩ u7)
theorem set8_below {W w : World} {n b : Nat} (h : Below n W w) (hb : n ≤ b) (u0 u1 u2 u3 u4 u5 u6 u7 : Value) : Below n W (set8 w b u0 u1 u2 u3 u4 u5 u6 u7) := by
 unfold set8
 exact (((((((h.setCell (p := ⟨b, 0, none⟩) hb u0).setCell (p := ⟨b, 1, none⟩) hb u1).setCell (p := ⟨b, 2, none⟩) hb u2).setCell (p := ⟨b, 3, none⟩) hb u3).setCell (p := ⟨b, 4, none⟩) hb u4).setCell (p := ⟨b, 5, none⟩) hb u5).setCell (p := ⟨b, 6, none⟩) hb u6).setCell (p := ⟨b, 7, none⟩) hb u7
theorem own_set8 {w : World} {B : Nat} {e : TypeId} {m : Nat} {v : Value} {n : Nat} {xs : List Value} (h : w.ownsRow B e m v n xs) {b : Nat} (hb : v.ownBlock ≠ some b) (u0 u1 u2 u3 u4 u5 u6 u7 : Value) : (set8 w b u0 u1 u2 u3 u4 u5 u6 u7).ownsRow B e m v n xs := by
 unfold set8
 exact own_set (own_set (own_set (own_set (own_set (own_set (own_set (own_set h hb _ _) hb _ _) hb _ _) hb _ _) hb _ _) hb _ _) hb _ _) hb _ _
theorem OwK.set8 {w : World} {B : Nat} {v1 v2 v3 v4 : Value} {rs : List LSt} {m q p : Nat} {xp xb xl : List Value} (h : OwK w B v1 v2 v3 v4 rs m q p xp xb xl) {b : Nat} {cur : Array Value} (hb : w.heap[b]? = some (.cells cur 30)) (u0 u1 u2 u3 u4 u5 u6 u7 : Value) : OwK (Go.Proofs.YtnihhbfgbilimaaGreatDoor.set8 w b u0 u1 u2 u3 u4 u5 u6 u7) B v1 v2 v3 v4 rs m q p xp xb xl :=
 ⟨⟨own_set8 h.fs.r1 (own_kindne h.fs.r1 hb (by decide)) _ _ _ _ _ _ _ _, fun r hr => own_set8 (h.fs.dom r hr) (own_kindne (h.fs.dom r hr) hb (by decide)) _ _ _ _ _ _ _ _, h.fs.diff⟩, own_set8 h.fp (own_kindne h.fp hb (by decide)) _ _ _ _ _ _ _ _, own_set8 h.fb (own_kindne h.fb hb (by decide)) _ _ _ _ _ _ _ _, own_set8 h.fl (own_kindne h.fl hb (by decide)) _ _ _ _ _ _ _ _⟩
set_option maxRecDepth 100000 in
set_option maxHeartbeats 8000000 in
theorem lcp_any (sl : Option Addr) (cap : Nat) (tl : Option Addr) (kap : Nat) (top pr st bu : Int) (bl : Option Addr) (cb : Nat) (pl : Option Addr) (cp : Nat) (rs : List LSt) (ps bs : List LPr) (ls : List LPl) (w : World) (hn : rs.length ≤ 1048576) (hm : ps.length ≤ 1048576) (hq : bs.length ≤ 1048576) (hl : ls.length ≤ 1048576) (hz : Sts w sl rs) (hp : Prs w tl ps) (hb : Prs w bl bs) (hpl : Pls w pl ls) :
  Calls Tryz.prog 57 #[CVk sl rs.length cap tl ps.length kap top pr st bu bl bs.length cb pl ls.length cp] w fun e w' => ∃ s1 k1 s2 k2 s3 k3 s4 k4 rs', e = .returned (CVk s1 rs'.length k1 s2 ps.length k2 top pr st bu s3 bs.length k3 s4 ls.length k4) ∧ bareS rs' = bareS rs ∧ OwK w' w.heap.size (.slice s1 rs'.length k1) (.slice s2 ps.length k2) (.slice s3 bs.length k3) (.slice s4 ls.length k4) rs' ps.length bs.length ls.length (prC ps) (prC bs) (enCells ls) ∧ Below w.heap.size w w' := by
 have HZ := Lib.hid hz
 have AP : Hid (∀ W, Below w.heap.size w W → ∃ v9 w9, (∀ ty, (Builtin.append_ #[24, 24] ty #[.slice (some ⟨W.heap.size, 0, none⟩) 0 0, .slice tl ps.length kap]).run Tryz.prog (W.alloc (.cells #[] 165)) = .ok v9 w9) ∧ w9.ownsRow W.heap.size 165 3 v9 ps.length (prC ps) ∧ Below W.heap.size W w9) := fun W hW => by
  obtain ⟨v9, w9, h1, h2, h3, -⟩ := appR (own_noneR W) kap ((hp.below hW).below (bA0 W (.cells #[] 165))) (bA0 W (.cells #[] 165)).size (by omega)
  exact ⟨v9, w9, h1, by simpa using h2, (bA0 W _).grown h3 (by simp) (fun j hj => ((own_noneR W).lt j hj).1)⟩
 have AB : Hid (∀ W, Below w.heap.size w W → ∃ v9 w9, (∀ ty, (Builtin.append_ #[27, 27] ty #[.slice (some ⟨W.heap.size, 0, none⟩) 0 0, .slice bl bs.length cb]).run Tryz.prog (W.alloc (.cells #[] 103)) = .ok v9 w9) ∧ w9.ownsRow W.heap.size 103 3 v9 bs.length (prC bs) ∧ Below W.heap.size W w9) := fun W hW => by
  obtain ⟨v9, w9, h1, h2, h3, -⟩ := appD (own_noneD W) cb ((hb.below hW).below (bA0 W (.cells #[] 103))) (bA0 W (.cells #[] 103)).size (by omega)
  exact ⟨v9, w9, h1, by simpa using h2, (bA0 W _).grown h3 (by simp) (fun j hj => ((own_noneD W).lt j hj).1)⟩
 have AL : Hid (∀ W, Below w.heap.size w W → ∃ v9 w9, (∀ ty, (Builtin.append_ #[28, 28] ty #[.slice (some ⟨W.heap.size, 0, none⟩) 0 0, .slice pl ls.length cp]).run Tryz.prog (W.alloc (.cells #[] 131)) = .ok v9 w9) ∧ w9.ownsRow W.heap.size 131 2 v9 ls.length (enCells ls) ∧ Below W.heap.size W w9) := fun W hW => by
  obtain ⟨v9, w9, h1, h2, h3, -⟩ := appQ (own_noneQ W) cp ((hpl.below hW).below (bA0 W (.cells #[] 131))) (bA0 W (.cells #[] 131)).size (by omega)
  exact ⟨v9, w9, h1, by simpa using h2, (bA0 W _).grown h3 (by simp) (fun j hj => ((own_noneQ W).lt j hj).1)⟩
 have AZ : Hid (∀ s k (zs : List Int) W, zs.length ≤ 1048576 → Ints w s zs → Below w.heap.size w W → ∃ v9 w9, (∀ ty, (Builtin.append_ #[34, 34] ty #[.slice (some ⟨W.heap.size, 0, none⟩) 0 0, .slice s zs.length k]).run Tryz.prog (W.alloc (.cells #[] 2)) = .ok v9 w9) ∧ w9.ownsRow W.heap.size 2 1 v9 zs.length (valsZ zs) ∧ Below W.heap.size W w9) := fun s k zs W h0 hi hW => by
  obtain ⟨v9, w9, h1, h2, h3, -⟩ := appZ (zs := []) (own_noneI W) k ((hi.below hW).below (bA0 W (.cells #[] 2))) (bA0 W (.cells #[] 2)).size (by simp; omega)
  exact ⟨v9, w9, h1, by simpa using h2, (bA0 W _).grown h3 (by simp) (fun j hj => ((own_noneI W).lt j hj).1)⟩
 clear hz hp hb hpl
 generalize hPP : prC ps = XP at *
 generalize hPB : prC bs = XB at *
 generalize hPL : enCells ls = XL at *
 clear hPP hPB hPL
 generalize ps.length = m at *
 generalize bs.length = q at *
 generalize ls.length = p at *
 generalize hN : rs.length = n at *
 have HN := Lib.hid hN
 clear hN
 have B2 : Hid (Below w.heap.size w ((w.alloc (CLC (.slice sl n cap) (.slice tl m kap) top pr st bu (.slice bl q cb) (.slice pl p cp))).alloc (.cells #[.slice none 0 0, .slice none 0 0, .int .i64 0, .int .i64 0, .int .i64 0, .int .i64 0, .slice none 0 0, .slice none 0 0] 30))) := bA (bA0 _ _) _
 have XC : Hid (∀ W, Below ((w.alloc (CLC (.slice sl n cap) (.slice tl m kap) top pr st bu (.slice bl q cb) (.slice pl p cp))).alloc (.cells #[.slice none 0 0, .slice none 0 0, .int .i64 0, .int .i64 0, .int .i64 0, .int .i64 0, .slice none 0 0, .slice none 0 0] 30)).heap.size ((w.alloc (CLC (.slice sl n cap) (.slice tl m kap) top pr st bu (.slice bl q cb) (.slice pl p cp))).alloc (.cells #[.slice none 0 0, .slice none 0 0, .int .i64 0, .int .i64 0, .int .i64 0, .int .i64 0, .slice none 0 0, .slice none 0 0] 30)) W → W.heap[w.heap.size]? = some (CLC (.slice sl n cap) (.slice tl m kap) top pr st bu (.slice bl q cb) (.slice pl p cp)) ∧ W.heap[w.heap.size + 1]? = some (.cells #[.slice none 0 0, .slice none 0 0, .int .i64 0, .int .i64 0, .int .i64 0, .int .i64 0, .slice none 0 0, .slice none 0 0] 30)) := fun W hW => by
  have h0 : ((w.alloc (CLC (.slice sl n cap) (.slice tl m kap) top pr st bu (.slice bl q cb) (.slice pl p cp))).alloc (.cells #[.slice none 0 0, .slice none 0 0, .int .i64 0, .int .i64 0, .int .i64 0, .int .i64 0, .slice none 0 0, .slice none 0 0] 30)).heap[w.heap.size]? = some (CLC (.slice sl n cap) (.slice tl m kap) top pr st bu (.slice bl q cb) (.slice pl p cp)) := (al_old _ _ _ (by simp)).trans (al_new _ _ _ rfl)
  have h1 := new_at (w.alloc (CLC (.slice sl n cap) (.slice tl m kap) top pr st bu (.slice bl q cb) (.slice pl p cp))) (.cells #[.slice none 0 0, .slice none 0 0, .int .i64 0, .int .i64 0, .int .i64 0, .int .i64 0, .slice none 0 0, .slice none 0 0] 30)
  rw [show (w.alloc (CLC (.slice sl n cap) (.slice tl m kap) top pr st bu (.slice bl q cb) (.slice pl p cp))).heap.size = w.heap.size + 1 by simp] at h1
  exact ⟨(hW.block _ (by simp <;> omega)).trans h0, (hW.block _ (by simp)).trans h1⟩
 have E3 : Hid (∀ W, Below w.heap.size w W → ∃ v9 w9, (∀ ty, (Builtin.append_ #[24, 24] ty #[.slice (some ⟨W.heap.size, 0, none⟩) 0 0, .slice tl m kap]).run Tryz.prog (W.alloc (.cells #[] 165)) = .ok v9 w9) ∧ w9.ownsRow W.heap.size 165 3 v9 m XP ∧ Below W.heap.size W w9) := AP.out
 have B3 : Hid (Below w.heap.size w (((w.alloc (CLC (.slice sl n cap) (.slice tl m kap) top pr st bu (.slice bl q cb) (.slice pl p cp))).alloc (.cells #[.slice none 0 0, .slice none 0 0, .int .i64 0, .int .i64 0, .int .i64 0, .int .i64 0, .slice none 0 0, .slice none 0 0] 30)).alloc (CLC (.slice sl n cap) (.slice tl m kap) top pr st bu (.slice bl q cb) (.slice pl p cp)))) := bA B2.out _
 obtain ⟨vp9, w9, hap, op9, bp9⟩ := E3.out (((w.alloc (CLC (.slice sl n cap) (.slice tl m kap) top pr st bu (.slice bl q cb) (.slice pl p cp))).alloc (.cells #[.slice none 0 0, .slice none 0 0, .int .i64 0, .int .i64 0, .int .i64 0, .int .i64 0, .slice none 0 0, .slice none 0 0] 30)).alloc (CLC (.slice sl n cap) (.slice tl m kap) top pr st bu (.slice bl q cb) (.slice pl p cp))) B3.out
 have hs3 : Hid ((((w.alloc (CLC (.slice sl n cap) (.slice tl m kap) top pr st bu (.slice bl q cb) (.slice pl p cp))).alloc (.cells #[.slice none 0 0, .slice none 0 0, .int .i64 0, .int .i64 0, .int .i64 0, .int .i64 0, .slice none 0 0, .slice none 0 0] 30)).alloc (CLC (.slice sl n cap) (.slice tl m kap) top pr st bu (.slice bl q cb) (.slice pl p cp))).heap.size = w.heap.size + 1 + 1 + 1) := by show _ = _; simp
 have hap0 := hap 24
 rw [hs3.out] at hap0
 have hap' := Lib.hid hap0
 clear hap0
 obtain ⟨s2, k2, rfl⟩ := own_v op9
 have X9 : Hid (w9.heap[w.heap.size]? = some (CLC (.slice sl n cap) (.slice tl m kap) top pr st bu (.slice bl q cb) (.slice pl p cp)) ∧ w9.heap[w.heap.size + 1]? = some (.cells #[.slice none 0 0, .slice none 0 0, .int .i64 0, .int .i64 0, .int .i64 0, .int .i64 0, .slice none 0 0, .slice none 0 0] 30)) := XC.out _ ((bA0 _ (CLC (.slice sl n cap) (.slice tl m kap) top pr st bu (.slice bl q cb) (.slice pl p cp))).trans (bp9.mono (bA0 _ (CLC (.slice sl n cap) (.slice tl m kap) top pr st bu (.slice bl q cb) (.slice pl p cp))).size))
 have O9 : Hid (w9.heap[w.heap.size + 1 + 1]? = some (CLC (.slice sl n cap) (.slice tl m kap) top pr st bu (.slice bl q cb) (.slice pl p cp))) := by
  have h := new_at (((w.alloc (CLC (.slice sl n cap) (.slice tl m kap) top pr st bu (.slice bl q cb) (.slice pl p cp))).alloc (.cells #[.slice none 0 0, .slice none 0 0, .int .i64 0, .int .i64 0, .int .i64 0, .int .i64 0, .slice none 0 0, .slice none 0 0] 30))) (CLC (.slice sl n cap) (.slice tl m kap) top pr st bu (.slice bl q cb) (.slice pl p cp))
  rw [show (((w.alloc (CLC (.slice sl n cap) (.slice tl m kap) top pr st bu (.slice bl q cb) (.slice pl p cp))).alloc (.cells #[.slice none 0 0, .slice none 0 0, .int .i64 0, .int .i64 0, .int .i64 0, .int .i64 0, .slice none 0 0, .slice none 0 0] 30))).heap.size = w.heap.size + 1 + 1 by simp] at h
  exact (bp9.block _ (by rw [hs3.out]; omega)).trans h
 have P9 := Lib.hid (own_mono op9 (show w.heap.size ≤ (((w.alloc (CLC (.slice sl n cap) (.slice tl m kap) top pr st bu (.slice bl q cb) (.slice pl p cp))).alloc (.cells #[.slice none 0 0, .slice none 0 0, .int .i64 0, .int .i64 0, .int .i64 0, .int .i64 0, .slice none 0 0, .slice none 0 0] 30)).alloc (CLC (.slice sl n cap) (.slice tl m kap) top pr st bu (.slice bl q cb) (.slice pl p cp))).heap.size by rw [hs3.out]; omega))
 have H9 := Lib.hid (bT B3.out bp9)
 have Z9 := Lib.hid (show w.heap.size + 1 + 1 + 1 ≤ w9.heap.size by have := bp9.size; rw [hs3.out] at this; exact this)
 obtain ⟨o0, o1, o2, o3, o4, o5, o6, o7, of, ol⟩ := cells8 O9.out
 obtain ⟨e0, e1, e2, e3, e4, e5, e6, e7, ef, el⟩ := cells8 X9.out.1
 obtain ⟨c0, c1, c2, c3, c4, c5, c6, c7, cf, cl⟩ := cells8 (XC.out _ (bA0 _ (CLC (.slice sl n cap) (.slice tl m kap) top pr st bu (.slice bl q cb) (.slice pl p cp)))).1
 clear hap op9 bp9 E3 AP B2 B3 XC hs3
 have SA0 : Hid (OwS ((w9.setCell ⟨w.heap.size + 1 + 1, 0, none⟩ (.slice none 0 0)).setCell ⟨w.heap.size + 1 + 1, 1, none⟩ (.slice s2 m k2)) w.heap.size (.slice none 0 0) []) := OwS.nil _ _
 have SP0 : Hid (((w9.setCell ⟨w.heap.size + 1 + 1, 0, none⟩ (.slice none 0 0)).setCell ⟨w.heap.size + 1 + 1, 1, none⟩ (.slice s2 m k2)).ownsRow w.heap.size 165 3 (.slice s2 m k2) m XP) := own_set (own_set P9.out (own_kindne P9.out O9.out (by decide)) _ _) (own_kindne P9.out O9.out (by decide)) _ _
 have SO0 : Hid (((w9.setCell ⟨w.heap.size + 1 + 1, 0, none⟩ (.slice none 0 0)).setCell ⟨w.heap.size + 1 + 1, 1, none⟩ (.slice s2 m k2)).heap[w.heap.size + 1 + 1]? = some (CLC (.slice none 0 0) (.slice s2 m k2) top pr st bu (.slice bl q cb) (.slice pl p cp))) := by
  have h1 := heap_setCell_same w9 (w.heap.size + 1 + 1) 0 _ 30 (.slice none 0 0) O9.out
  have h2 := heap_setCell_same _ (w.heap.size + 1 + 1) 1 _ 30 (.slice s2 m k2) h1
  refine Lib.hid ?_
  simpa using h2
 have SX0 : Hid (((w9.setCell ⟨w.heap.size + 1 + 1, 0, none⟩ (.slice none 0 0)).setCell ⟨w.heap.size + 1 + 1, 1, none⟩ (.slice s2 m k2)).heap[w.heap.size]? = some (CLC (.slice sl n cap) (.slice tl m kap) top pr st bu (.slice bl q cb) (.slice pl p cp)) ∧ ((w9.setCell ⟨w.heap.size + 1 + 1, 0, none⟩ (.slice none 0 0)).setCell ⟨w.heap.size + 1 + 1, 1, none⟩ (.slice s2 m k2)).heap[w.heap.size + 1]? = some (.cells #[.slice none 0 0, .slice none 0 0, .int .i64 0, .int .i64 0, .int .i64 0, .int .i64 0, .slice none 0 0, .slice none 0 0] 30)) := ⟨(Below.heap_setCell _ _ _ _ (show w.heap.size ≠ w.heap.size + 1 + 1 by omega)).trans ((Below.heap_setCell _ _ _ _ (show w.heap.size ≠ w.heap.size + 1 + 1 by omega)).trans X9.out.1), (Below.heap_setCell _ _ _ _ (show w.heap.size + 1 ≠ w.heap.size + 1 + 1 by omega)).trans ((Below.heap_setCell _ _ _ _ (show w.heap.size + 1 ≠ w.heap.size + 1 + 1 by omega)).trans X9.out.2)⟩
 have SB0 : Hid (Below w.heap.size w ((w9.setCell ⟨w.heap.size + 1 + 1, 0, none⟩ (.slice none 0 0)).setCell ⟨w.heap.size + 1 + 1, 1, none⟩ (.slice s2 m k2)) ∧ w.heap.size + 1 + 1 + 1 ≤ ((w9.setCell ⟨w.heap.size + 1 + 1, 0, none⟩ (.slice none 0 0)).setCell ⟨w.heap.size + 1 + 1, 1, none⟩ (.slice s2 m k2)).heap.size) := ⟨(H9.out.setCell (p := ⟨w.heap.size + 1 + 1, 0, none⟩) (show w.heap.size ≤ w.heap.size + 1 + 1 by omega) _).setCell (p := ⟨w.heap.size + 1 + 1, 1, none⟩) (show w.heap.size ≤ w.heap.size + 1 + 1 by omega) _, by have := Z9.out; simpa [World.setCell] using this⟩
 clear P9 O9 X9 H9 Z9
 go_enter Tryz.func57, Tryz.ntmps57
 go_wp2_with (at_builtin; refine Lib.wpList_append_run _ rfl _ _ _ _ rfl _ _ rfl rfl _ _ hap'.out ?_)
 generalize (w9.setCell ⟨w.heap.size + 1 + 1, 0, none⟩ (.slice none 0 0)).setCell ⟨w.heap.size + 1 + 1, 1, none⟩ (.slice s2 m k2) = wA at *
 clear o0 o1 o2 o3 o4 o5 o6 o7 of ol e0 e1 e2 e3 e4 e5 e6 e7 ef el c0 c1 c2 c3 c4 c5 c6 c7 cf cl hap'
 go_loopw [4] (fun i wr => ∃ (k : Nat) (a : List LSt) (s1 : Option Addr) (k1 : Nat), i = .int .i64 k ∧ k ≤ n ∧ Hid (a.length = k ∧ bareS a = bareS (rs.take k)) ∧ Hid (OwS wr w.heap.size (.slice s1 k k1) a) ∧ Hid (wr.ownsRow w.heap.size 165 3 (.slice s2 m k2) m XP) ∧ Hid (wr.heap[w.heap.size + 1 + 1]? = some (CLC (.slice s1 k k1) (.slice s2 m k2) top pr st bu (.slice bl q cb) (.slice pl p cp))) ∧ Hid (wr.heap[w.heap.size]? = some (CLC (.slice sl n cap) (.slice tl m kap) top pr st bu (.slice bl q cb) (.slice pl p cp)) ∧ wr.heap[w.heap.size + 1]? = some (.cells #[.slice none 0 0, .slice none 0 0, .int .i64 0, .int .i64 0, .int .i64 0, .int .i64 0, .slice none 0 0, .slice none 0 0] 30)) ∧ Hid (Below w.heap.size w wr ∧ w.heap.size + 1 + 1 + 1 ≤ wr.heap.size)) (fun i _ => n - (intOf i).toNat)
 case atStart => exact ⟨0, [], none, 0, rfl, Nat.zero_le _, ⟨rfl, rfl⟩, SA0, SP0, SO0, SX0, SB0⟩
 case round =>
  obtain ⟨k, a, s1, k1, rfl, hk, HA, SA, SP, SO, SX, SB⟩ := hrel
  have hk0 : (0 : Int) ≤ (k : Int) := by omega
  obtain ⟨x0, x1, x2, x3, x4, x5, x6, x7, xf, xl⟩ := cells8 SX.out.1
  by_cases g1 : k < n
  ·have g1' : (k : Int) < (n : Int) := by omega
   have hlt : k < rs.length := by rw [HN.out]; exact g1
   obtain ⟨g, o, rfl, Z⟩ : ∃ c o, sl = some ⟨c, o, none⟩ ∧ StAt w c o rs := by
    rcases HZ.out.row with e | h
    ·rw [e] at hlt; simp at hlt
    ·exact h
   obtain ⟨c0, c1, c2⟩ := (Z.below SB.out.1).cell k hlt
   have gl := (Z.below SB.out.1).lt
   obtain ⟨s, q1, ed, hi, hq1⟩ := HZ.out.dom _ (List.getElem_mem hlt)
   have TK := Lib.hid (List.take_succ_eq_append_getElem hlt)
   rw [ed] at c2
   generalize rs[k] = r at *
   obtain ⟨x, y, vv, ds⟩ := r
   dsimp only at c0 c1 c2 ed hi hq1
   clear ed hlt Z
   have NB := Lib.hid (bA0 wr (.cells #[.int .i64 x, .int .i64 y, .slice s ds.length q1] 92))
   have NX := Lib.hid (new_at wr (.cells #[.int .i64 x, .int .i64 y, .slice s ds.length q1] 92))
   obtain ⟨vd, wd, hd, od, bd⟩ := AZ.out s q1 ds (wr.alloc (.cells #[.int .i64 x, .int .i64 y, .slice s ds.length q1] 92)) hq1 hi (bA SB.out.1 _)
   obtain ⟨fd, kd, rfl⟩ := own_v od
   have hd0 := hd 34
   rw [show (wr.alloc (.cells #[.int .i64 x, .int .i64 y, .slice s ds.length q1] 92)).heap.size = wr.heap.size + 1 by simp] at hd0
   have HD1 := Lib.hid hd0
   clear hd0
   have DX := Lib.hid ((bd.block wr.heap.size (Array.getElem?_eq_some_iff.1 NX.out).1).trans NX.out)
   obtain ⟨dl, d0, d1, d2, df⟩ := s92_facts DX.out
   -- the station's box with its own domain
   have DY : Hid ((wd.setCell ⟨wr.heap.size, 2, none⟩ (.slice fd ds.length kd)).heap[wr.heap.size]? = some (.cells #[.int .i64 x, .int .i64 y, .slice fd ds.length kd] 92)) := by
    have h := heap_setCell_same wd wr.heap.size 2 _ 92 (.slice fd ds.length kd) DX.out
    refine Lib.hid ?_
    simpa using h
   obtain ⟨yl, y0, y1, y2, yf⟩ := s92_facts DY.out
   have bwd := bT NB.out bd
   have hne : ∀ v : Value, ∀ (e : TypeId) (mm nn : Nat) (xs : List Value), wr.ownsRow w.heap.size e mm v nn xs → v.ownBlock ≠ some wr.heap.size := fun v e mm nn xs ho e0 => by have := (ho.lt _ e0).2; omega
   have SA1 : OwS (wd.setCell ⟨wr.heap.size, 2, none⟩ (.slice fd ds.length kd)) w.heap.size (.slice s1 k k1) a := ⟨own_set (own_below SA.out.r1 bwd) (hne _ _ _ _ _ SA.out.r1) _ _, fun r hr => own_set (own_below (SA.out.dom r hr) bwd) (hne _ _ _ _ _ (SA.out.dom r hr)) _ _, SA.out.diff⟩
   have od1 : (wd.setCell ⟨wr.heap.size, 2, none⟩ (.slice fd ds.length kd)).ownsRow wr.heap.size 2 1 (.slice fd ds.length kd) ds.length (valsZ ds) := own_mono (own_set od (own_kindne od DX.out (by decide)) _ _) NB.out.size
   have hwB : Below wr.heap.size wr (wd.setCell ⟨wr.heap.size, 2, none⟩ (.slice fd ds.length kd)) := bwd.setCell (p := ⟨wr.heap.size, 2, none⟩) (Nat.le_refl _) _
   have SP1 : Hid ((wd.setCell ⟨wr.heap.size, 2, none⟩ (.slice fd ds.length kd)).ownsRow w.heap.size 165 3 (.slice s2 m k2) m XP) := own_set (own_below SP.out bwd) (hne _ _ _ _ _ SP.out) _ _
   have SO1 : Hid ((wd.setCell ⟨wr.heap.size, 2, none⟩ (.slice fd ds.length kd)).heap[w.heap.size + 1 + 1]? = some (CLC (.slice s1 k k1) (.slice s2 m k2) top pr st bu (.slice bl q cb) (.slice pl p cp))) := (hwB.block _ (by have := SB.out.2; omega)).trans SO.out
   obtain ⟨o0, o1, o2, o3, o4, o5, o6, o7, of, ol⟩ := cells8 SO1.out
   have hka : a.length = k := HA.out.1
   obtain ⟨v9, w9', ha9, own9, grow9, -⟩ := app1S (by have := SA1.r1; rwa [hka] at this) (.int .i64 x) (.int .i64 y) (.slice fd ds.length kd) (Nat.le_trans SB.out.1.size hwB.size) (by omega) ⟨rfl, rfl, rfl⟩
   obtain ⟨f9, k9, rfl⟩ := own_v own9
   have ha0 := ha9 23
   rw [show (wd.setCell ⟨wr.heap.size, 2, none⟩ (.slice fd ds.length kd)).heap.size = wd.heap.size by simp [World.setCell]] at ha0
   have HD2 := Lib.hid ha0
   clear ha0
   have nb2 := bA0 (wd.setCell ⟨wr.heap.size, 2, none⟩ (.slice fd ds.length kd)) (.cells #[.int .i64 x, .int .i64 y, .slice fd ds.length kd] 92)
   have hv1 : ∀ {b : Nat} {cur : Array Value} {t : TypeId}, (92 : TypeId) ≠ t → (wd.setCell ⟨wr.heap.size, 2, none⟩ (.slice fd ds.length kd)).heap[b]? = some (.cells cur t) → w9'.heap[b]? = some (.cells cur t) := fun {b cur t} ht hb => by
    have h1 := (nb2.block b (Array.getElem?_eq_some_iff.1 hb).1).trans hb
    exact (grow9.block b (Array.getElem?_eq_some_iff.1 h1).1 (fun e0 => own_kindne (own_below SA1.r1 nb2) h1 ht e0.symm)).trans h1
   have SO2 : Hid (w9'.heap[w.heap.size + 1 + 1]? = some (CLC (.slice s1 k k1) (.slice s2 m k2) top pr st bu (.slice bl q cb) (.slice pl p cp))) := hv1 (by decide) SO1.out
   have SX2 : Hid (w9'.heap[w.heap.size]? = some (CLC (.slice (some ⟨g, o, none⟩) n cap) (.slice tl m kap) top pr st bu (.slice bl q cb) (.slice pl p cp)) ∧ w9'.heap[w.heap.size + 1]? = some (.cells #[.slice none 0 0, .slice none 0 0, .int .i64 0, .int .i64 0, .int .i64 0, .int .i64 0, .slice none 0 0, .slice none 0 0] 30)) := ⟨hv1 (by decide) ((hwB.block _ (by have := SB.out.2; omega)).trans SX.out.1), hv1 (by decide) ((hwB.block _ (by have := SB.out.2; omega)).trans SX.out.2)⟩
   obtain ⟨n0, n1, n2, n3, n4, n5, n6, n7, nf, nl⟩ := cells8 SO2.out
   have SA2 : OwS w9' w.heap.size (.slice f9 (k + 1) k9) (a ++ [(x, y, .slice fd ds.length kd, ds)]) := OwS.add (w := wr) SA.out (hwB.trans (nb2.mono hwB.size)) (own_below od1 nb2) SB.out.1.size grow9 (by rw [hka]; exact own9)
   have SA3 : Hid (OwS (w9'.setCell ⟨w.heap.size + 1 + 1, 0, none⟩ (.slice f9 (k + 1) k9)) w.heap.size (.slice f9 (k + 1) k9) (a ++ [(x, y, .slice fd ds.length kd, ds)])) := SA2.set1 SO2.out (by decide) _
   have SP2 : w9'.ownsRow w.heap.size 165 3 (.slice s2 m k2) m XP := (own_below SP1.out nb2).kept grow9 (own_diff (own_below SP1.out nb2) (own_below SA1.r1 nb2) (by decide))
   have SP3 : Hid ((w9'.setCell ⟨w.heap.size + 1 + 1, 0, none⟩ (.slice f9 (k + 1) k9)).ownsRow w.heap.size 165 3 (.slice s2 m k2) m XP) := own_set SP2 (own_kindne SP2 SO2.out (by decide)) _ _
   have SO3 : Hid ((w9'.setCell ⟨w.heap.size + 1 + 1, 0, none⟩ (.slice f9 (k + 1) k9)).heap[w.heap.size + 1 + 1]? = some (CLC (.slice f9 (k + 1) k9) (.slice s2 m k2) top pr st bu (.slice bl q cb) (.slice pl p cp))) := by
    have h := heap_setCell_same w9' (w.heap.size + 1 + 1) 0 _ 30 (.slice f9 (k + 1) k9) SO2.out
    refine Lib.hid ?_
    simpa using h
   have SX3 : Hid ((w9'.setCell ⟨w.heap.size + 1 + 1, 0, none⟩ (.slice f9 (k + 1) k9)).heap[w.heap.size]? = some (CLC (.slice (some ⟨g, o, none⟩) n cap) (.slice tl m kap) top pr st bu (.slice bl q cb) (.slice pl p cp)) ∧ (w9'.setCell ⟨w.heap.size + 1 + 1, 0, none⟩ (.slice f9 (k + 1) k9)).heap[w.heap.size + 1]? = some (.cells #[.slice none 0 0, .slice none 0 0, .int .i64 0, .int .i64 0, .int .i64 0, .int .i64 0, .slice none 0 0, .slice none 0 0] 30)) := ⟨(Below.heap_setCell _ _ _ _ (show w.heap.size ≠ w.heap.size + 1 + 1 by omega)).trans SX2.out.1, (Below.heap_setCell _ _ _ _ (show w.heap.size + 1 ≠ w.heap.size + 1 + 1 by omega)).trans SX2.out.2⟩
   have SB2 : Below w.heap.size w w9' := (bT SB.out.1 (hwB.trans (nb2.mono hwB.size))).grown grow9 (by have := SB.out.1.size; have := hwB.size; have := nb2.size; omega) (fun j hj => (SA1.r1.lt j hj).1)
   have SB3 : Hid (Below w.heap.size w (w9'.setCell ⟨w.heap.size + 1 + 1, 0, none⟩ (.slice f9 (k + 1) k9)) ∧ w.heap.size + 1 + 1 + 1 ≤ (w9'.setCell ⟨w.heap.size + 1 + 1, 0, none⟩ (.slice f9 (k + 1) k9)).heap.size) := ⟨SB2.setCell (p := ⟨w.heap.size + 1 + 1, 0, none⟩) (show w.heap.size ≤ w.heap.size + 1 + 1 by omega) _, by have h1 := grow9.size; have h2 := nb2.size; have h3 := hwB.size; have h4 := SB.out.2; have h5 : w.heap.size + 1 + 1 + 1 ≤ w9'.heap.size := (by omega); simpa [World.setCell] using h5⟩
   have HA3 : Hid ((a ++ [(x, y, Value.slice fd ds.length kd, ds)]).length = k + 1 ∧ bareS (a ++ [(x, y, Value.slice fd ds.length kd, ds)]) = bareS (rs.take (k + 1))) := by
    refine ⟨by rw [List.length_append, hka]; rfl, ?_⟩
    rw [TK.out, bareS_app, bareS_app, HA.out.2]
    rfl
   clear hd od bd NB NX DX DY bwd hne SA1 od1 hwB SP1 SO1 ha9 own9 grow9 nb2 hv1 SO2 SX2 SA2 SP2 SB2 SA SP SO SX SB HA hka TK hi hq1
   generalize ds.length = ql at *
   go_wp2_with (at_builtin; first | (refine Lib.wpList_append_run _ rfl _ _ _ _ rfl _ _ rfl rfl _ _ HD1.out ?_; clear HD1) | refine Lib.wpList_append_run _ rfl _ _ _ _ rfl _ _ rfl rfl _ _ HD2.out ?_)
   go_roundw
   case rel => exact ⟨k + 1, _, f9, k9, by go_num, by omega, HA3, SA3, SP3, SO3, SX3, SB3⟩
   case measure => simp [intOf]; omega
  ·have g1' : ¬ (k : Int) < (n : Int) := by omega
   have hkn : k = n := by omega
   subst hkn
   have AF : Hid (a.length = k ∧ bareS a = bareS rs) := by
    have h1 := HA.out.2
    rw [List.take_of_length_le (by rw [HN.out]; exact Nat.le_refl _)] at h1
    exact ⟨HA.out.1, h1⟩
   have SK : Hid (OwS wr w.heap.size (.slice s1 k k1) a) := SA.out
   obtain ⟨v3, wb, hb3, ob3, bb3⟩ := AB.out wr SB.out.1
   obtain ⟨s3, k3, rfl⟩ := own_v ob3
   have HD3 := Lib.hid (hb3 27)
   have SOb := (bb3.block _ (by have := SB.out.2; omega)).trans SO.out
   obtain ⟨b0, b1, b2, b3, b4, b5, b6, b7, bf, bl0⟩ := cells8 SOb
   have SOB : (wb.setCell ⟨w.heap.size + 1 + 1, 6, none⟩ (.slice s3 q k3)).heap[w.heap.size + 1 + 1]? = some (CLC (.slice s1 k k1) (.slice s2 m k2) top pr st bu (.slice s3 q k3) (.slice pl p cp)) := by
    have h := heap_setCell_same wb (w.heap.size + 1 + 1) 6 _ 30 (.slice s3 q k3) SOb
    simpa using h
   have SXB0 := (Below.heap_setCell wb ⟨w.heap.size + 1 + 1, 6, none⟩ (.slice s3 q k3) w.heap.size (show w.heap.size ≠ w.heap.size + 1 + 1 by omega)).trans ((bb3.block _ (by have := SB.out.2; omega)).trans SX.out.1)
   have SXB1 := (Below.heap_setCell wb ⟨w.heap.size + 1 + 1, 6, none⟩ (.slice s3 q k3) (w.heap.size + 1) (show w.heap.size + 1 ≠ w.heap.size + 1 + 1 by omega)).trans ((bb3.block _ (by have := SB.out.2; omega)).trans SX.out.2)
   obtain ⟨y0, y1, y2, y3, y4, y5, y6, y7, yf, yl⟩ := cells8 SXB0
   obtain ⟨z0, z1, z2, z3, z4, z5, z6, z7, zf, zl⟩ := cells8 (((bA0 (wb.setCell ⟨w.heap.size + 1 + 1, 6, none⟩ (.slice s3 q k3)) (.cells #[] 131)).block _ (Array.getElem?_eq_some_iff.1 SXB0).1).trans SXB0)
   have SBB : Below w.heap.size w (wb.setCell ⟨w.heap.size + 1 + 1, 6, none⟩ (.slice s3 q k3)) := (bT SB.out.1 bb3).setCell (p := ⟨w.heap.size + 1 + 1, 6, none⟩) (show w.heap.size ≤ w.heap.size + 1 + 1 by omega) _
   obtain ⟨v4, wl, hl4, ol4, bl4⟩ := AL.out (wb.setCell ⟨w.heap.size + 1 + 1, 6, none⟩ (.slice s3 q k3)) SBB
   obtain ⟨s4, k4, rfl⟩ := own_v ol4
   have hl40 := hl4 28
   rw [show (wb.setCell ⟨w.heap.size + 1 + 1, 6, none⟩ (.slice s3 q k3)).heap.size = wb.heap.size by simp [World.setCell]] at hl40
   have HD4 := Lib.hid hl40
   have SOl := (bl4.block _ (Array.getElem?_eq_some_iff.1 SOB).1).trans SOB
   obtain ⟨q0, q1, q2, q3, q4, q5, q6, q7, qf, ql⟩ := cells8 SOl
   have SOL : (wl.setCell ⟨w.heap.size + 1 + 1, 7, none⟩ (.slice s4 p k4)).heap[w.heap.size + 1 + 1]? = some (CLC (.slice s1 k k1) (.slice s2 m k2) top pr st bu (.slice s3 q k3) (.slice s4 p k4)) := by
    have h := heap_setCell_same wl (w.heap.size + 1 + 1) 7 _ 30 (.slice s4 p k4) SOl
    simpa using h
   obtain ⟨p0, p1, p2, p3, p4, p5, p6, p7, pf, plt⟩ := cells8 SOL
   have SXL1 := (Below.heap_setCell wl ⟨w.heap.size + 1 + 1, 7, none⟩ (.slice s4 p k4) (w.heap.size + 1) (show w.heap.size + 1 ≠ w.heap.size + 1 + 1 by omega)).trans ((bl4.block _ (Array.getElem?_eq_some_iff.1 SXB1).1).trans SXB1)
   obtain ⟨r0, r1, r2, r3, r4, r5, r6, r7, rf, rl⟩ := cells8 SXL1
   have SBL : Below w.heap.size w (wl.setCell ⟨w.heap.size + 1 + 1, 7, none⟩ (.slice s4 p k4)) := (bT SBB bl4).setCell (p := ⟨w.heap.size + 1 + 1, 7, none⟩) (show w.heap.size ≤ w.heap.size + 1 + 1 by omega) _
   have KL : OwK (wl.setCell ⟨w.heap.size + 1 + 1, 7, none⟩ (.slice s4 p k4)) w.heap.size (.slice s1 k k1) (.slice s2 m k2) (.slice s3 q k3) (.slice s4 p k4) a m q p XP XB XL := by
    have hSb := SA.out.below bb3
    have hPb := own_below SP.out bb3
    have hBb := own_mono ob3 SB.out.1.size
    have hSB := hSb.set1 (i := 6) SOb (by decide) (.slice s3 q k3)
    have hPB := own_set hPb (own_kindne hPb SOb (by decide)) 6 (.slice s3 q k3)
    have hBB := own_set hBb (own_kindne hBb SOb (by decide)) 6 (.slice s3 q k3)
    have hSl := hSB.below bl4
    have hPl := own_below hPB bl4
    have hBl := own_below hBB bl4
    have hLl := own_mono ol4 SBB.size
    exact ⟨hSl.set1 SOl (by decide) _, own_set hPl (own_kindne hPl SOl (by decide)) _ _, own_set hBl (own_kindne hBl SOl (by decide)) _ _, own_set hLl (own_kindne hLl SOl (by decide)) _ _⟩
   have FIN : Hid (∃ j1 i1 j2 i2 j3 i3 j4 i4 rs', (Ending.returned (CVk s1 k k1 s2 m k2 top pr st bu s3 q k3 s4 p k4) : Ending) = .returned (CVk j1 rs'.length i1 j2 m i2 top pr st bu j3 q i3 j4 p i4) ∧ bareS rs' = bareS rs ∧ OwK (set8 (wl.setCell ⟨w.heap.size + 1 + 1, 7, none⟩ (.slice s4 p k4)) (w.heap.size + 1) (.slice s1 k k1) (.slice s2 m k2) (.int .i64 top) (.int .i64 pr) (.int .i64 st) (.int .i64 bu) (.slice s3 q k3) (.slice s4 p k4)) w.heap.size (.slice j1 rs'.length i1) (.slice j2 m i2) (.slice j3 q i3) (.slice j4 p i4) rs' m q p XP XB XL ∧ Below w.heap.size w (set8 (wl.setCell ⟨w.heap.size + 1 + 1, 7, none⟩ (.slice s4 p k4)) (w.heap.size + 1) (.slice s1 k k1) (.slice s2 m k2) (.int .i64 top) (.int .i64 pr) (.int .i64 st) (.int .i64 bu) (.slice s3 q k3) (.slice s4 p k4))) := by
    refine ⟨s1, k1, s2, k2, s3, k3, s4, k4, a, ?_, AF.out.2, ?_, set8_below SBL (Nat.le_succ _) _ _ _ _ _ _ _ _⟩
    ·rw [AF.out.1]
    ·rw [AF.out.1]
     exact KL.set8 SXL1 _ _ _ _ _ _ _ _
   unfold set8 at FIN
   clear hb3 ob3 bb3 SOb SOB SXB0 SXB1 SBB hl4 hl40 ol4 bl4 SOl SOL SXL1 SBL KL SK SA SP SO SX SB AF HA AB AL AZ
   go_wp2_with (at_builtin; first | (refine Lib.wpList_append_run _ rfl _ _ _ _ rfl _ _ rfl rfl _ _ HD3.out ?_; clear HD3) | refine Lib.wpList_append_run _ rfl _ _ _ _ rfl _ _ rfl rfl _ _ HD4.out ?_)
   clear b0 b1 b2 b3 b4 b5 b6 b7 bf bl0 y0 y1 y2 y3 y4 y5 y6 y7 yf yl z0 z1 z2 z3 z4 z5 z6 z7 zf zl q0 q1 q2 q3 q4 q5 q6 q7 qf ql HD4
   generalize wl.setCell ⟨w.heap.size + 1 + 1, 7, none⟩ (.slice s4 p k4) = wL at *
   exact bodyPost_ret (v := CVk s1 k k1 s2 m k2 top pr st bu s3 q k3 s4 p k4) (by simp [results, Tryz.results57, go_sem, r0, r1, r2, r3, r4, r5, r6, r7]) rfl FIN.out
end Go.Proofs.YtnihhbfgbilimaaGreatDoor
