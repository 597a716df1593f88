/-
  A LINE READ, AS THE PROGRAM DOES: takeApart, readLine.
-/
import Derived.Test.YtemkfdpbhdjgfaaGreatDoorLm
import Derived.Test.YtemkfdpbhdjgfaaGreatDoorLh
import Derived.Deep.RegionHeld3
import Derived.Deep.RegionHeldLaw
namespace Go.Proofs.YtemkfdpbhdjgfaaGreatDoor
open Go.RowKit
set_option linter.unusedVariables false
set_option linter.unusedSimpArgs false

theorem own_strs2 {w : World} {B : Nat} {v : Value} {ls : List (List UInt8)} (h : w.ownsRow B 9 1 v ls.length (strs ls)) (h1 : 1 ≤ ls.length) : ∃ g cap, v = .slice (some ⟨g, 0, none⟩) ls.length cap ∧ g < w.heap.size ∧ ls.length ≤ cap ∧ ∀ i x, ls[i]? = some x → w.cell? ⟨g, i, none⟩ = some (strV x) := by
  have h2 := own_strs h h1
  rcases h.2 with ⟨_, h0⟩ | ⟨g, cap, cur, hv, hb, hg, hc, _⟩
  · omega
  · obtain ⟨g', cap', hv', hl', hx'⟩ := h2
    rw [hv] at hv'
    cases hv'
    exact ⟨g, cap, hv, hl', hc, hx'⟩
/-- What readLine hands back. -/
def RdP (a : Addr) (r : Bool) (e : Ending) : Prop := ∃ v1 v2 v3, e = .returned (.tuple #[v1, v2, v3]) ∧ (r = true → v3 = .nilIface) ∧ (r = false → v3 = .iface 340 (.pointer (some a)))

theorem cells5 {w : World} {b : Nat} {t : TypeId} {a0 a1 a2 a3 a4 : Value} (h : w.heap[b]? = some (.cells #[a0, a1, a2, a3, a4] t)) :
    w.cell? ⟨b, 0, none⟩ = some a0 ∧ w.cell? ⟨b, 1, none⟩ = some a1 ∧ w.cell? ⟨b, 2, none⟩ = some a2 ∧ w.cell? ⟨b, 3, none⟩ = some a3 ∧ w.cell? ⟨b, 4, none⟩ = some a4 ∧ (∀ o, w.frozen? ⟨b, o, none⟩ = false) ∧ b < w.heap.size := by
  refine ⟨?_, ?_, ?_, ?_, ?_, fun o => ?_, (Array.getElem?_eq_some_iff.1 h).1⟩ <;> simp [World.cell?, World.frozen?, h]
/-- May a line be taken apart? -/
def okA (t : List UInt8) : Bool := decide (t.length ≤ 60) && ((splitL 32 t).tail.all numI && ((splitL 32 t).tail.map digv).all okM)
theorem line_apart (t : List UInt8) : lineI t = (okA t && wordI ((splitL 32 t).headD []) (splitL 32 t).tail.length) := by
  unfold lineI okA
  cases decide (t.length ≤ 60) <;> cases (splitL 32 t).tail.all numI <;> cases ((splitL 32 t).tail.map digv).all okM <;> simp
/-- What takeApart hands back. -/
def TkP (a : Addr) (wd : List UInt8) (n : Nat) (r : Bool) (e : Ending) : Prop := (r = true → ∃ sl c, e = .returned (.tuple #[.string ⟨wd.toArray⟩, .slice sl n c, .nilIface])) ∧ (r = false → e = .returned (.tuple #[.string ⟨#[]⟩, .slice none 0 0, .iface 340 (.pointer (some a))]))

set_option maxRecDepth 100000 in
set_option maxHeartbeats 8000000 in
/-- impl.takeApart. -/
theorem tka_any (s : ByteArray) (a : Addr) (w : World) (hs : s.size ≤ 1048576) (hp : PowTab w) (hg : w.cell? ⟨0, 0, none⟩ = some (.iface 340 (.pointer (some a)))) (h0 : 0 < w.heap.size) :
    Calls Tryz.prog 11 #[.string s] w fun e w' => TkP a ((splitL 32 s.data.toList).headD []) (splitL 32 s.data.toList).tail.length (okA s.data.toList) e ∧ Below w.heap.size w w' := by
  by_cases h60 : s.size ≤ 60
  case neg =>
    have HF : okA s.data.toList = false := by unfold okA; rw [decide_eq_false (by simp; omega), Bool.false_and]
    rw [HF]
    have h60' : (60 : Int) < (s.size : Int) := by omega
    clear HF hp
    go_enter Tryz.func11, Tryz.ntmps11
    go_wp2
    go_quiet (fail)
    go_wp2
    exact bodyPost_ret (v := .tuple #[.string ⟨#[]⟩, .slice none 0 0, .iface 340 (.pointer (some a))]) (by simp [results, Tryz.results11, go_sem]) rfl ⟨⟨fun h => (by cases h), fun _ => rfl⟩, below_drewN (Below.refl _ _) _⟩
  have h60' : ¬ (60 : Int) < (s.size : Int) := by omega
  have BL := Lib.hid (blw_any s w (by omega))
  have HP := Lib.hid (spl_piece 32 s.data.toList)
  have LW : (splitL 32 s.data.toList).length ≤ 61 := by have := (split_len 32 s.data.toList).2; simp at this; omega
  have L1 := (split_len 32 s.data.toList).1
  have HZ : okA s.data.toList = ((splitL 32 s.data.toList).tail.all numI && ((splitL 32 s.data.toList).tail.map digv).all okM) := by unfold okA; rw [decide_eq_true (by simp; omega), Bool.true_and]
  rw [HZ]
  clear HZ
  generalize splitL 32 s.data.toList = ws at *
  obtain ⟨wd, ps, rfl⟩ : ∃ wd ps, ws = wd :: ps := by
    cases ws with
    | nil => simp at L1
    | cons a b => exact ⟨a, b, rfl⟩
  have hb : Hid (∀ x ∈ ps, x.length ≤ 1000) := fun x hx => by
    have := HP.out x (List.mem_cons_of_mem _ hx)
    simp at this
    omega
  have hl : ps.length ≤ 60 := by simp at LW; omega
  simp only [List.tail_cons, List.headD_cons]
  have RN := Lib.hid (show ps.all numI = false → (ps.all numI && (ps.map digv).all okM) = false from fun h => by rw [h, Bool.false_and])
  have RY := Lib.hid (show ps.all numI = true → (ps.all numI && (ps.map digv).all okM) = (ps.map digv).all okM from fun h => by rw [h, Bool.true_and])
  generalize (ps.all numI && (ps.map digv).all okM) = r at *
  clear HP LW L1
  have HPW := Lib.hid hp
  have HG := Lib.hid hg
  clear hp hg
  go_enter Tryz.func11, Tryz.ntmps11
  go_wp2_with fail
  refine BL.out.mono ?_
  rintro e w1 ⟨v, rfl, ow, b1⟩
  obtain ⟨g, cap, rfl, gl, hcap, gc⟩ := own_strs2 ow (by simp)
  simp only [List.length_cons] at ow hcap ⊢
  have D1 := Lib.hid b1
  have GC := Lib.hid gc
  have KX : Hid (∀ W, Below w1.heap.size w1 W → g < W.heap.size ∧ W.cell? ⟨g, 0, none⟩ = some (.string ⟨wd.toArray⟩)) := fun W hW => ⟨Nat.lt_of_lt_of_le gl hW.size, (hW.cell (p := ⟨g, 0, none⟩) gl).trans (gc 0 wd rfl)⟩
  have NB : Hid (∀ W, Below w1.heap.size w1 W → Calls Tryz.prog 18 #[.slice (some ⟨g, 1, none⟩) ps.length (cap - 1)] W fun e w' => ∃ v, e = .returned (.tuple #[v, .bool (ps.all numI)]) ∧ (ps.all numI = true → w'.ownsRow W.heap.size 2 1 v ps.length (valsZ (ps.map digv))) ∧ (∃ sl n c, v = .slice sl n c) ∧ Below W.heap.size W w') := fun W hW => nbs_any g 1 (cap - 1) ps W (by omega) hb.out (Nat.lt_of_lt_of_le gl hW.size) (fun i x hx => (hW.cell (p := ⟨g, 1 + i, none⟩) gl).trans (by rw [Nat.add_comm]; exact gc (i + 1) x (by rw [List.getElem?_cons_succ]; exact hx))) (HPW.out.below (bT b1 hW))
  have NB0 : Hid (cap = 1 → ∀ W, Below w1.heap.size w1 W → Calls Tryz.prog 18 #[.slice (some ⟨g, 0, none⟩) ps.length 0] W fun e w' => ∃ v, e = .returned (.tuple #[v, .bool (ps.all numI)]) ∧ (ps.all numI = true → w'.ownsRow W.heap.size 2 1 v ps.length (valsZ (ps.map digv))) ∧ (∃ sl n c, v = .slice sl n c) ∧ Below W.heap.size W w') := fun h1 W hW => nbs_any g 0 0 ps W (by omega) hb.out (Nat.lt_of_lt_of_le gl hW.size) (fun i x hx => by
    have := (List.getElem?_eq_some_iff.1 hx).1
    omega) (HPW.out.below (bT b1 hW))
  have hs1 := b1.size
  have HGW : Hid (∀ W, Below w1.heap.size w1 W → W.cell? ⟨0, 0, none⟩ = some (.iface 340 (.pointer (some a))) ∧ 0 < W.heap.size) := fun W hW => ⟨((bT b1 hW).cell (p := ⟨0, 0, none⟩) h0).trans HG.out, Nat.lt_of_lt_of_le h0 (bT b1 hW).size⟩
  clear ow b1 BL gc hb HPW HG
  have e1 : (1 : Int) ≤ (ps.length : Int) + 1 := by omega
  by_cases hc1 : cap = 1
  · go_wp2_with fail
    refine (NB0.out hc1 _ (Below.refl _ _)).mono ?_
    rintro e w5 ⟨v5, rfl, hv5, ⟨sl5, n5, c5, e5⟩, b5⟩
    have D5 := Lib.hid (bT D1.out b5)
    have X5 := Lib.hid b5
    obtain ⟨hg5, h05⟩ := HGW.out _ X5.out
    obtain ⟨gl5, gc5⟩ := KX.out _ X5.out
    clear NB NB0
    cases ha : ps.all numI
    · have HF := RN.out ha
      subst HF
      subst e5
      clear hv5 ha KX HGW RN RY b5
      go_wp2
      go_quiet (fail)
      go_wp2
      exact bodyPost_ret (v := .tuple #[.string ⟨#[]⟩, .slice none 0 0, .iface 340 (.pointer (some a))]) (by simp [results, Tryz.results11, go_sem]) rfl ⟨⟨fun h => (by cases h), fun _ => rfl⟩, below_drewN D5.out _⟩
    have HR := Lib.hid (RY.out ha)
    have ow := hv5 ha
    obtain ⟨sl, c, ev, iv⟩ := own_ints (zs := ps.map digv) (by rw [List.length_map]; exact ow)
    rw [List.length_map] at ev
    subst ev
    have CF : Hid (∀ W, Below w5.heap.size w5 W → Calls Tryz.prog 20 #[.slice sl ps.length c, TG] W fun e w' => e = .returned (.bool (!((ps.map digv).all okM))) ∧ Below W.heap.size W w') := fun W hW => by
      have := cog_any sl c (ps.map digv) W (by rw [List.length_map]; omega) (iv.below hW)
      rwa [List.length_map] at this
    clear e5 ow iv hv5 ha RN RY b5
    generalize (ps.map digv).all okM = oo at *
    go_wp2_with fail
    refine (CF.out _ (Below.refl _ _)).mono ?_
    rintro e w7 ⟨rfl, b7⟩
    have D7 := Lib.hid (bT D5.out b7)
    have X7 := Lib.hid (bT X5.out b7)
    clear hg5 h05 gl5 gc5
    obtain ⟨hg7, h07⟩ := HGW.out _ X7.out
    obtain ⟨gl7, gc7⟩ := KX.out _ X7.out
    clear b7 CF KX HGW
    cases oo
    · have HF : r = false := HR.out
      subst HF
      clear HR
      go_wp2
      go_quiet (fail)
      go_wp2
      exact bodyPost_ret (v := .tuple #[.string ⟨#[]⟩, .slice none 0 0, .iface 340 (.pointer (some a))]) (by simp [results, Tryz.results11, go_sem]) rfl ⟨⟨fun h => (by cases h), fun _ => rfl⟩, below_drewN D7.out _⟩
    · have HF : r = true := HR.out
      subst HF
      clear HR
      go_wp2
      exact bodyPost_ret (v := .tuple #[.string ⟨wd.toArray⟩, .slice sl ps.length c, .nilIface]) (by simp [results, Tryz.results11, go_sem]) rfl ⟨⟨fun _ => ⟨_, _, rfl⟩, fun h => (by cases h)⟩, D7.out⟩
  · go_wp2_with fail
    refine (NB.out _ (Below.refl _ _)).mono ?_
    rintro e w5 ⟨v5, rfl, hv5, ⟨sl5, n5, c5, e5⟩, b5⟩
    have D5 := Lib.hid (bT D1.out b5)
    have X5 := Lib.hid b5
    obtain ⟨hg5, h05⟩ := HGW.out _ X5.out
    obtain ⟨gl5, gc5⟩ := KX.out _ X5.out
    clear NB NB0
    cases ha : ps.all numI
    · have HF := RN.out ha
      subst HF
      subst e5
      clear hv5 ha KX HGW RN RY b5
      go_wp2
      go_quiet (fail)
      go_wp2
      exact bodyPost_ret (v := .tuple #[.string ⟨#[]⟩, .slice none 0 0, .iface 340 (.pointer (some a))]) (by simp [results, Tryz.results11, go_sem]) rfl ⟨⟨fun h => (by cases h), fun _ => rfl⟩, below_drewN D5.out _⟩
    have HR := Lib.hid (RY.out ha)
    have ow := hv5 ha
    obtain ⟨sl, c, ev, iv⟩ := own_ints (zs := ps.map digv) (by rw [List.length_map]; exact ow)
    rw [List.length_map] at ev
    subst ev
    have CF : Hid (∀ W, Below w5.heap.size w5 W → Calls Tryz.prog 20 #[.slice sl ps.length c, TG] W fun e w' => e = .returned (.bool (!((ps.map digv).all okM))) ∧ Below W.heap.size W w') := fun W hW => by
      have := cog_any sl c (ps.map digv) W (by rw [List.length_map]; omega) (iv.below hW)
      rwa [List.length_map] at this
    clear e5 ow iv hv5 ha RN RY b5
    generalize (ps.map digv).all okM = oo at *
    go_wp2_with fail
    refine (CF.out _ (Below.refl _ _)).mono ?_
    rintro e w7 ⟨rfl, b7⟩
    have D7 := Lib.hid (bT D5.out b7)
    have X7 := Lib.hid (bT X5.out b7)
    clear hg5 h05 gl5 gc5
    obtain ⟨hg7, h07⟩ := HGW.out _ X7.out
    obtain ⟨gl7, gc7⟩ := KX.out _ X7.out
    clear b7 CF KX HGW
    cases oo
    · have HF : r = false := HR.out
      subst HF
      clear HR
      go_wp2
      go_quiet (fail)
      go_wp2
      exact bodyPost_ret (v := .tuple #[.string ⟨#[]⟩, .slice none 0 0, .iface 340 (.pointer (some a))]) (by simp [results, Tryz.results11, go_sem]) rfl ⟨⟨fun h => (by cases h), fun _ => rfl⟩, below_drewN D7.out _⟩
    · have HF : r = true := HR.out
      subst HF
      clear HR
      go_wp2
      exact bodyPost_ret (v := .tuple #[.string ⟨wd.toArray⟩, .slice sl ps.length c, .nilIface]) (by simp [results, Tryz.results11, go_sem]) rfl ⟨⟨fun _ => ⟨_, _, rfl⟩, fun h => (by cases h)⟩, D7.out⟩

set_option maxRecDepth 100000 in
set_option maxHeartbeats 8000000 in
/-- impl.readLine. -/
theorem rdl_any (s : ByteArray) (a : Addr) (w : World) (hs : s.size ≤ 1048576) (hp : PowTab w) (hg : w.cell? ⟨0, 0, none⟩ = some (.iface 340 (.pointer (some a)))) (h0 : 0 < w.heap.size) :
    Calls Tryz.prog 8 #[.string s] w fun e w' => RdP a (lineI s.data.toList) e ∧ Below w.heap.size w w' := by
  have TA := Lib.hid (tka_any s a w hs hp hg h0)
  rw [line_apart]
  generalize (splitL 32 s.data.toList).headD [] = wd at *
  have hn : (splitL 32 s.data.toList).tail.length ≤ 1048576 := by
    have := (split_len 32 s.data.toList).2
    rw [List.length_tail]
    simp at this
    omega
  generalize (splitL 32 s.data.toList).tail.length = n at *
  have HGW : Hid (∀ W, Below w.heap.size w W → W.cell? ⟨0, 0, none⟩ = some (.iface 340 (.pointer (some a))) ∧ 0 < W.heap.size) := fun W hW => ⟨(hW.cell (p := ⟨0, 0, none⟩) h0).trans hg, Nat.lt_of_lt_of_le h0 hW.size⟩
  have CO := Lib.hid com_any
  have LK0 := Lib.hid run_look
  have W0 := Lib.hid (show cmdOf cmdsL wd = none → wordI wd n = false from fun h => by unfold wordI; rw [h])
  have W1 := Lib.hid (show ∀ k, cmdOf cmdsL wd = some k → wordI wd n = tkB k.2.1 k.2.2 n from fun k h => by unfold wordI; rw [h])
  generalize wordI wd n = wi at *
  clear hp hg
  generalize okA s.data.toList = ok at *
  obtain ⟨r, hr⟩ : ∃ r, (ok && wi) = r := ⟨_, rfl⟩
  rw [hr]
  have HR0 := Lib.hid hr
  clear hr
  go_enter Tryz.func8, Tryz.ntmps8
  go_wp2_with fail
  refine TA.out.mono ?_
  rintro e w1 ⟨⟨hy, hno⟩, b1⟩
  have D1 := Lib.hid b1
  clear TA b1
  cases ok with
  | false =>
    obtain rfl := hno rfl
    have HF0 : r = false := by rw [← HR0.out, Bool.false_and]
    subst HF0
    clear hy hno HR0
    go_wp2_with fail
    refine (CO.out _).mono ?_
    rintro e w2 ⟨rfl, cm, b2⟩
    have LK : (Instr.lookup 39 (.map (some w1.heap.size)) (.string ⟨#[]⟩) true).run Tryz.prog w2 = .ok (.tuple #[.agg #[.int .i64 0, .bool false, .bool false, .bool false, .nilFunc], .bool false]) w2 := (LK0.out w2 _ [] cm).1 (by decide)
    have D3 := Lib.hid (bT D1.out (bA b2 (.cells #[.int .i64 0, .bool false, .bool false, .bool false, .nilFunc] 37)))
    obtain ⟨hg3, h03⟩ := HGW.out _ D3.out
    clear CO LK0 W0 W1 HGW b2 cm
    go_wp2
    go_quiet (fail)
    go_wp2
    exact bodyPost_ret (v := .tuple #[.string ⟨#[]⟩, .slice none 0 0, .iface 340 (.pointer (some a))]) (by simp [results, Tryz.results8, go_sem]) rfl ⟨⟨_, _, _, rfl, fun h => (by cases h), fun _ => rfl⟩, below_drewN D3.out _⟩
  | true =>
    obtain ⟨sl, c, rfl⟩ := hy rfl
    obtain rfl : wi = r := by rw [← HR0.out, Bool.true_and]
    clear hy hno HR0
    go_wp2_with fail
    refine (CO.out _).mono ?_
    rintro e w2 ⟨rfl, cm, b2⟩
    cases hc : cmdOf cmdsL wd with
    | none =>
      have LK := (LK0.out w2 _ wd cm).1 hc
      have D3 := Lib.hid (bT D1.out (bA b2 (.cells #[.int .i64 0, .bool false, .bool false, .bool false, .nilFunc] 37)))
      obtain ⟨hg3, h03⟩ := HGW.out _ D3.out
      have HF := W0.out hc
      subst HF
      clear CO LK0 W0 W1 HGW b2 cm hc
      go_wp2
      go_quiet (fail)
      go_wp2
      exact bodyPost_ret (v := .tuple #[.string ⟨#[]⟩, .slice none 0 0, .iface 340 (.pointer (some a))]) (by simp [results, Tryz.results8, go_sem]) rfl ⟨⟨_, _, _, rfl, fun h => (by cases h), fun _ => rfl⟩, below_drewN D3.out _⟩
    | some k =>
      obtain ⟨ob, cb, fx, fy, fz, LK⟩ := (LK0.out w2 _ wd cm).2 k hc
      have D3 := Lib.hid (bT D1.out (bA b2 (.cells #[.int .i64 k.2.1, .bool k.2.2, .bool ob, .bool cb, .func fx fy fz] 37)))
      have WW := Lib.hid (W1.out k hc)
      have TK := Lib.hid (tak_any k.2.1 k.2.2 ob cb (.func fx fy fz) (n : Int) (w2.alloc (.cells #[.int .i64 k.2.1, .bool k.2.2, .bool ob, .bool cb, .func fx fy fz] 37)))
      obtain ⟨q0, q1, q2, q3, q4, qf, ql⟩ := cells5 (heap_alloc_new w2 (.cells #[.int .i64 k.2.1, .bool k.2.2, .bool ob, .bool cb, .func fx fy fz] 37))
      clear CO LK0 W0 W1 b2 cm hc
      go_wp2_with fail
      refine TK.out.mono ?_
      rintro e w6 ⟨rfl, b6⟩
      have D6 := Lib.hid (bT D3.out b6)
      obtain ⟨hg6, h06⟩ := HGW.out _ D6.out
      have HR := WW.out
      generalize tkB k.2.1 k.2.2 (n : Int) = tk at *
      clear b6 q0 q1 q2 q3 q4 qf ql TK WW HGW
      subst HR
      cases wi
      · go_wp2
        go_quiet (fail)
        go_wp2
        exact bodyPost_ret (v := .tuple #[.string ⟨#[]⟩, .slice none 0 0, .iface 340 (.pointer (some a))]) (by simp [results, Tryz.results8, go_sem]) rfl ⟨⟨_, _, _, rfl, fun h => (by cases h), fun _ => rfl⟩, below_drewN D6.out _⟩
      · go_wp2
        exact bodyPost_ret (v := .tuple #[.string ⟨wd.toArray⟩, .slice sl n c, .nilIface]) (by simp [results, Tryz.results8, go_sem]) rfl ⟨⟨_, _, _, rfl, fun _ => rfl, fun h => (by cases h)⟩, D6.out⟩

end Go.Proofs.YtemkfdpbhdjgfaaGreatDoor
