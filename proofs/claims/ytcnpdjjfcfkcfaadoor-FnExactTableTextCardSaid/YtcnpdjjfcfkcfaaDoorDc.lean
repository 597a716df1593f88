/-
  WHAT impl.TableText CALLS AND KEEPS: a text in the making leaves maps and rows of keys alone; the word of a pair, its kind, the lines.
-/
import Derived.Test.YtcnpdjjfcfkcfaaDoorDb
import Derived.Test.YtcnpdjjfcfkcfaaDoorBg
import Derived.Test.YtcnpdjjfcfkcfaaDoorAm
namespace Go.Proofs.YtcnpdjjfcfkcfaaDoor
open Go.RowKit Go.Maps
set_option linter.unusedVariables false

/-- What is no row of bytes and no builder. -/
def NotTxt (o : Obj) : Prop := ∀ cs f, o ≠ .cells cs 5 f ∧ o ≠ .cells cs 94 f
/-- All that is no text stays. -/
def KeepN (w w' : World) : Prop := ∀ (j : Nat) (o : Obj), w.heap[j]? = some o → NotTxt o → w'.heap[j]? = some o
theorem KeepN.trans {a b c : World} (h : KeepN a b) (g : KeepN b c) : KeepN a c := fun j o e n => g j o (h j o e n) n
theorem KeepN.of_below {w w' : World} (h : Below w.heap.size w w') : KeepN w w' := fun j o e n => (h.block j (Array.getElem?_eq_some_iff.1 e).1).trans e
theorem KeepN.setCell {w w' : World} (h : KeepN w w') (b i : Nat) (v : Value) {cs : Array Value} {f : Nat × Nat} (hb : w.heap[b]? = some (.cells cs 94 f)) : KeepN w (w'.setCell ⟨b, i, none⟩ v) := fun j o e n => by
  have hj : b ≠ j := fun e' => by
    subst e'
    rw [hb] at e
    exact (n cs f).2 (Option.some.inj e).symm
  have := h j o e n
  simp only [World.setCell, Array.getElem?_modify]
  rw [if_neg hj]
  exact this
theorem own_keep {B n : Nat} {v : Value} {xs : List Value} {w w' : World} (h : w.ownsRow B 105 2 v n xs) (k : KeepN w w') : w'.ownsRow B 105 2 v n xs := by
  obtain ⟨hl, h0 | ⟨g, cap, cur, hv, hb, hh, r⟩⟩ := h
  · exact ⟨hl, .inl h0⟩
  · exact ⟨hl, .inr ⟨g, cap, cur, hv, hb, k g _ hh (fun cs f => ⟨(fun e => by cases e), (fun e => by cases e)⟩), r⟩⟩
theorem map_keep {w w' : World} {b n : Nat} {D : DataW Unit} (h : w.ownsMap Tryd.prog 105 (plainElem (H := Unit) Tryd.prog 2) b n D) (k : KeepN w w') : w'.ownsMap Tryd.prog 105 (plainElem (H := Unit) Tryd.prog 2) b n D := by
  obtain ⟨es, clock, hb, F, hs, hD⟩ := h
  exact ⟨es, clock, k b _ hb (fun cs f => ⟨(fun e => by cases e), (fun e => by cases e)⟩), F, hs, hD⟩
theorem cc_keep (B b : Nat) (l : List Value) (w : World) (h : Bd B b l w) :
    Calls Tryd.prog 106 #[.pointer (some ⟨b, 0, none⟩)] w fun e w' => e = .returned (.tuple #[]) ∧ Lib.BuilderAt 94 5 B b (.pointer (some ⟨b, 0, none⟩)) l w' ∧ Below B w w' ∧ KeepN w w' := by
  rcases h with h | h
  · refine (cc_new b w h.cell0 h.shape h.frozen0).mono ?_
    rintro e w' ⟨rfl, rfl⟩
    obtain ⟨_, v, hb, _⟩ := id h
    exact ⟨rfl, h.used _, (Below.refl B w).setCell (p := ⟨b, 0, none⟩) h.1 _, KeepN.setCell (fun j o e n => e) b 0 _ hb⟩
  · refine (cc_used b w h.cell0).mono ?_
    rintro e w' ⟨rfl, rfl⟩
    exact ⟨rfl, h, Below.refl B _, fun j o e n => e⟩
set_option maxHeartbeats 2000000 in
set_option maxRecDepth 100000 in
/-- WriteString, and what it leaves alone. -/
theorem ws_keep (B b : Nat) (l : List Value) (s : ByteArray) (w : World) (h : Bd B b l w) (hlen : l.length + s.size ≤ 140737488355328) (hBw : B ≤ w.heap.size) :
    Calls Tryd.prog 63 #[.pointer (some ⟨b, 0, none⟩), .string s] w fun e w' => e = .returned (.tuple #[.int .i64 s.size, .nilIface]) ∧ Bd B b (l ++ Lib.strCells s) w' ∧ Below B w w' ∧ KeepN w w' := by
  obtain ⟨i0, hi, hz0, hz1, hz2⟩ := info_parts infoU8
  have E := Lib.hid (cc_keep B b l w h)
  clear h
  go_enter Tryd.func63, Tryd.ntmps63
  go_wp2_with fail
  refine E.out.mono ?_
  rintro e w1 ⟨rfl, ⟨hB, v, hbk, hown, hne⟩, b1, kp⟩
  have KP := Lib.hid kp
  have hs1 := b1.size
  have hlt : b < w1.heap.size := (Array.getElem?_eq_some_iff.1 hbk).1
  have c1 : w1.cell? ⟨b, 1, none⟩ = some v := by rw [Lib.cell_of_heap hbk]; rfl
  clear E kp
  go_wp2_with (at_builtin; refine Lib.wpList_append_own_string _ rfl _ _ 22 9 rfl B 5 i0 Tryd.underlying22 Tryd.underlying9 hi hz0 hz1 hz2 _ _ _ rfl hown s rfl (by unfold maxLen; omega) (by omega) (by omega) ?_)
  intro v9 w2 own9 grow9 _
  have K2 : Hid (KeepN w1 w2) := fun j o e n => by
    refine (grow9.block j (Array.getElem?_eq_some_iff.1 e).1 (fun e' => ?_)).trans e
    rcases hown.2 with ⟨hv, _⟩ | ⟨g, cap, cur, hv, _, hh, _⟩
    · subst hv; simp [Value.ownBlock] at e'
    · subst hv
      simp only [Value.ownBlock, Option.some.injEq] at e'
      subst e'
      rw [hh] at e
      exact (n _ _).1 (Option.some.inj e).symm
  have hb2 : w2.heap[b]? = some (.cells #[.pointer (some ⟨b, 0, none⟩), v] 94 (0, 0)) := (grow9.block b hlt (fun e => hne e.symm)).trans hbk
  have d1 : w2.cell? ⟨b, 1, none⟩ = some v := by rw [Lib.cell_of_heap hb2]; rfl
  have f1 : w2.frozen? ⟨b, 1, none⟩ = false := Lib.frozen_of_heap hb2 1
  obtain ⟨ao, n9, cap9, rfl⟩ : ∃ ao n9 cap9, v9 = .slice ao n9 cap9 := by
    rcases own9.2 with ⟨hv, _⟩ | ⟨g, cap, cur, hv, _⟩
    · exact ⟨_, _, _, hv⟩
    · exact ⟨_, _, _, hv⟩
  have P := Lib.hid (Lib.BuilderAt.put (T := 94) (e := 5) hB hb2 (bs' := l ++ Lib.strCells s) (by simpa [Lib.strCells_length] using own9) (by decide))
  have Q := Lib.hid ((b1.grown grow9 (by omega) (fun k hk => (hown.lt k hk).1)).setCell (p := ⟨b, 1, none⟩) hB (.slice ao n9 cap9))
  have KK := Lib.hid (KP.out.trans (K2.out.setCell b 1 (.slice ao n9 cap9) hbk))
  clear own9 grow9 hown
  go_wp2
  go_ret2
  exact ⟨rfl, .inr P.out, Q.out, KK.out⟩
theorem ws_textK {B b : Nat} {l : List UInt8} {w : World} (d : List UInt8) (h : Bd B b (Lib.byteCells l) w) (hlen : l.length + d.length ≤ 140737488355328) (hBw : B ≤ w.heap.size) :
    Calls Tryd.prog 63 #[.pointer (some ⟨b, 0, none⟩), .string ⟨d.toArray⟩] w fun e w' => e = .returned (.tuple #[.int .i64 d.length, .nilIface]) ∧ Bd B b (Lib.byteCells (l ++ d)) w' ∧ Below B w w' ∧ KeepN w w' := by
  have := ws_keep B b (Lib.byteCells l) ⟨d.toArray⟩ w h (by rw [Lib.byteCells_length]; simpa [ByteArray.size] using hlen) hBw
  refine this.mono ?_
  rintro e w' ⟨rfl, hb, bl, kp⟩
  refine ⟨by simp [ByteArray.size], ?_, bl, kp⟩
  rw [Lib.byteCells_append]
  exact hb
/-- impl.pairWord, of a kind that is one of the two. -/
theorem pw_any (q : Int) (w : World) (h : q = 1 ∨ q = 2) : Calls Tryd.prog 67 #[.int .i64 q] w fun e w' => e = .returned (.string ⟨(pwB q).toArray⟩) ∧ w' = w := by
  rcases h with rfl | rfl
  · go_enter Tryd.func67, Tryd.ntmps67
    go_wp2
    go_ret
    exact ⟨rfl, rfl⟩
  · go_enter Tryd.func67, Tryd.ntmps67
    go_wp2
    go_ret
    exact ⟨rfl, rfl⟩
/-- The kind of two stations: that of the last pair of the two, 0 where there is none. -/
def kindF (x : Int × Int) (z : Int) (ps : List LPr) : Int := ps.foldl (fun a p => if ends p = x then p.2.2 else a) z
def kindL (ps : List LPr) (x : Int × Int) : Int := kindF x 0 ps
theorem fold_at (ps : List LPr) (hw : ∀ p ∈ ps, WfP p) (x : Int × Int) (hx : wfI x.1 ∧ wfI x.2) : ∀ (D : DataW Unit) (z : Int), IsMap D → D.atKey (kOf x) (.lit (.int .i64 0)) = .lit (.int .i64 z) → (ps.foldl (fun D p => D.put (kOf (ends p)) (.lit (.int .i64 p.2.2))) D).atKey (kOf x) (.lit (.int .i64 0)) = .lit (.int .i64 (kindF x z ps)) := by
  induction ps with
  | nil => intro D z _ h; exact h
  | cons p r ih =>
    intro D z hD h
    have hp := hw p (by simp)
    rw [List.foldl_cons]
    show _ = DataW.lit (.int .i64 (kindF x (if ends p = x then p.2.2 else z) r))
    refine ih (fun q hq => hw q (by simp [hq])) _ _ (hD.put _ _) ?_
    by_cases e : ends p = x
    · rw [if_pos e, e]
      exact atKey_put_same hD (kOf_key _ hx) _ _
    · rw [if_neg e, atKey_put_other (fun h' => e (kOf_inj hx hp.1 h').symm)]
      exact h
theorem Kd_at (ps : List LPr) (hw : ∀ p ∈ ps, WfP p) (x : Int × Int) (hx : wfI x.1 ∧ wfI x.2) : (Kd ps).atKey (kOf x) (.lit (.int .i64 0)) = .lit (.int .i64 (kindL ps x)) :=
  fold_at ps hw x hx _ 0 isMap_empty (atKey_of_not_has (by simp [Maps.has]) _)
theorem kindF_out (x : Int × Int) : ∀ (ps : List LPr) (z : Int), (∀ p ∈ ps, ends p ≠ x) → kindF x z ps = z
  | [], z, _ => rfl
  | p :: r, z, h => by
    show kindF x (if ends p = x then p.2.2 else z) r = z
    rw [if_neg (h p (by simp))]
    exact kindF_out x r z (fun q hq => h q (by simp [hq]))
theorem kindF_at : ∀ (ps : List LPr) (z : Int), PSort ps → ∀ p ∈ ps, kindF (ends p) z ps = p.2.2
  | [], z, _, p, hp => by simp at hp
  | a :: r, z, hs, p, hp => by
    have hs' : (ends a :: r.map ends).Pairwise Lt2 := hs
    rw [List.pairwise_cons] at hs'
    show kindF (ends p) (if ends a = ends p then a.2.2 else z) r = p.2.2
    rcases List.mem_cons.1 hp with rfl | hr
    · rw [if_pos rfl]
      refine kindF_out _ r _ (fun q hq e => ?_)
      have := hs'.1 (ends q) (List.mem_map.2 ⟨q, hq, rfl⟩)
      rw [e] at this
      exact Lt2.irr _ this
    · exact kindF_at r _ hs'.2 p hr
theorem kindL_at {ps : List LPr} (hs : PSort ps) {p : LPr} (hp : p ∈ ps) : kindL ps (ends p) = p.2.2 := kindF_at ps 0 hs p hp
theorem new_at2 (w : World) (o o2 : Obj) : ((w.alloc o).alloc o2).heap[w.heap.size + 1]? = some o2 := by
  have h : (w.alloc o).heap.size = w.heap.size + 1 := by simp
  rw [← h]
  exact heap_alloc_new (w.alloc o) o2
/-- Two numbers in a row of their own. -/
theorem own_two (w : World) (o : Obj) (x y : Int) : ((w.alloc o).alloc (.cells #[.int .i64 x, .int .i64 y] 2)).ownsRow w.heap.size 2 1 (.slice (some ⟨w.heap.size + 1, 0, none⟩) 2 2) 2 (valsZ [x, y]) :=
  ⟨rfl, .inr ⟨w.heap.size + 1, 2, #[.int .i64 x, .int .i64 y], rfl, by omega, new_at2 w o _, Nat.le_refl _, by unfold maxLen; omega, rfl, rfl⟩⟩
theorem valsZ_add (a b : List Int) : valsZ (a ++ b) = valsZ a ++ valsZ b := by simp [valsZ]
theorem st_line {B : Nat} (x y : Int) (zs : List Int) (g cap : Nat) (w : World) (hx : 1 ≤ x ∧ x ≤ 999) (hy : 1 ≤ y ∧ y ≤ 1000) (hl : zs.length ≤ 8) (hz : MidL zs) (h : w.ownsRow B 2 1 (.slice (some ⟨g, 0, none⟩) (2 + zs.length) cap) (2 + zs.length) (valsZ [x, y] ++ valsZ zs)) (ht : PowTab w) :
    Calls Tryd.prog 64 #[.string ⟨#[115, 116, 97, 116, 105, 111, 110]⟩, .slice (some ⟨g, 0, none⟩) (2 + zs.length) cap] w fun e w' => e = .returned (.string ⟨(statB x y zs ++ [10]).toArray⟩) ∧ Below w.heap.size w w' := by
  have h' : w.ownsRow B 2 1 (.slice (some ⟨g, 0, none⟩) (2 + zs.length) cap) ([x, y] ++ zs).length (valsZ ([x, y] ++ zs)) := by
    rw [valsZ_add, List.length_append]; exact h
  obtain ⟨sl, cap', e, ii⟩ := own_ints h'
  rw [e]
  exact lof_any [115, 116, 97, 116, 105, 111, 110] sl cap' ([x, y] ++ zs) w (by simp) (by simp; omega) (fun z hz' => by
    rcases List.mem_append.1 hz' with h | h
    · simp at h; rcases h with rfl | rfl <;> omega
    · exact hz z h) ii ht
theorem pr_line (p : LPr) (a : Nat) (w : World) (h : PrSmall p) (hi : Ints w (some ⟨a, 0, none⟩) [p.1, p.2.1]) (ht : PowTab w) :
    Calls Tryd.prog 64 #[.string ⟨(pwB p.2.2).toArray⟩, .slice (some ⟨a, 0, none⟩) 2 2] w fun e w' => e = .returned (.string ⟨(prL p).toArray⟩) ∧ Below w.heap.size w w' := by
  have hw : (pwB p.2.2).length ≤ 1000 := by unfold pwB; split <;> decide
  exact lof_any (pwB p.2.2) (some ⟨a, 0, none⟩) 2 [p.1, p.2.1] w hw (by simp) (fun z hz' => by
    have := h.1
    have := h.2
    simp at hz'; rcases hz' with rfl | rfl <;> omega) hi ht
end Go.Proofs.YtcnpdjjfcfkcfaaDoor
