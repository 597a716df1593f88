/-
  THE IDS AS THEY STAND, as the program gathers them.
  THE LAWS' TABLES: their sizes.
  THE LAWS' TABLES: copied into tables of the program.
  THE LAWS' TABLES, copied: whose memory the copies are.
  MARKS: lists of numbers and tables of one's own written over by numbers that rise, and held against them.
  THE DRAWS: a source of numbers.
  THE DRAWS: how a source begins.
  THE DRAWS: a coin, and a number between two.
  THE DRAWS, BESIDE LISTS THAT GROW: a source that lies below a bound; a list of numbers.
  WHEN A TABLE IS RIGHT: the thinking.
-/
import Derived.Test.YtdmfljejlhlbnaaJaa
import Derived.Deep.AppendLies
import Derived.WalkSmall
import Derived.OwnWalk
import Derived.Deep.QuietTactic
import Derived.BigQuiet
import Derived.RegionTactic
import Derived.ChangeAlike
import Derived.Deep.RegionHeldLaw
namespace Go.Proofs.Ytdmfljejlhlbnaa
open Go.RowKit
set_option linter.unusedVariables false

theorem info2' : (Try.prog.info? 2).map (fun i => (i.zero, i.size, i.bytes)) = some (some (.int .i64 0), 1, 8) := by kernel_rfl

theorem cell_one_new' (w : World) (o : Obj) (a : Value) (t : TypeId) : ∀ (j : Nat) (u : Value), [a][j]? = some u → ((w.alloc o).alloc (.cells #[a] t)).cell? ((⟨w.heap.size + 1, 0, none⟩ : Addr).add j) = some u := by
  have := cell_one_new (w.alloc o) a t
  rwa [show (w.alloc o).heap.size = w.heap.size + 1 by simp] at this

set_option maxHeartbeats 1000000 in
theorem ids_some (c o cap : Nat) (sl2 : Option Addr) (m cap2 : Nat) (rs : List LSt) (w : World) (hn : rs.length ≤ 1048576) (hz : StAt w c o rs) (hd : ∀ r ∈ rs, DomIn w r) :
    Calls Try.prog 129 #[TV (some ⟨c, o, none⟩) rs.length cap sl2 m cap2] w fun e w' => ∃ v, e = .returned v ∧ w'.ownsRow w.heap.size 2 1 v rs.length (valsZ (idsL rs)) ∧ Below w.heap.size w w' := by
  obtain ⟨i0, hi0, hz0, hz1, hz2⟩ := info_parts info2'
  have HZ := Lib.hid (hz.below (bA0 w (.cells #[.slice (some ⟨c, o, none⟩) rs.length cap, .slice sl2 m cap2] 26)))
  have HT := Lib.hid (TabAt.new w (some ⟨c, o, none⟩) rs.length cap sl2 m cap2)
  clear hz
  generalize hN : rs.length = n at *
  have HN := Lib.hid hN
  clear hN
  have B0 := Lib.hid (bA0 w (.cells #[.slice (some ⟨c, o, none⟩) n cap, .slice sl2 m cap2] 26))
  go_enter Try.func129, Try.ntmps129
  go_wp2
  generalize (w.alloc (.cells #[.slice (some ⟨c, o, none⟩) n cap, .slice sl2 m cap2] 26)) = w0 at *
  have HD := Lib.hid (fun r hr => (hd r hr).below B0.out)
  clear hd
  go_loopw [3, 9] (fun v i wr => ∃ k : Nat, i = .int .i64 k ∧ k ≤ n ∧ Hid (wr.ownsRow w0.heap.size 2 1 v k (valsZ ((idsL rs).take k))) ∧ Hid (Below w0.heap.size w0 wr)) (fun _ i _ => n - (intOf i).toNat)
  case atStart => exact ⟨0, rfl, Nat.zero_le _, ⟨rfl, .inl ⟨rfl, rfl⟩⟩, Below.refl _ _⟩
  case round =>
    obtain ⟨k, rfl, hk, H1, H2⟩ := hrel
    have hk0 : (0 : Int) ≤ (k : Int) := by omega
    by_cases h1 : k < n
    · have h1' : (k : Int) < (n : Int) := by omega
      have hlt : k < rs.length := by rw [HN.out]; exact h1
      obtain ⟨hc, hc1, hc2⟩ := (HZ.out.below H2.out).cell k hlt
      obtain ⟨sld, capd, ed, -, -⟩ := HD.out rs[k] (List.getElem_mem hlt)
      rw [ed] at hc2
      have EV := Lib.hid (show valsZ ((idsL rs).take k) ++ [.int .i64 rs[k].1] = valsZ ((idsL rs).take (k + 1)) by
        rw [List.take_add_one, show (idsL rs)[k]? = some rs[k].1 by simp [idsL, hlt]]
        simp [valsZ])
      generalize rs[k].1 = z at *
      generalize rs[k].2.1 = y at *
      generalize rs[k].2.2.2.length = q at *
      clear hlt ed
      have hown := Lib.hid (H1.out.alloc (.cells #[.int .i64 z, .int .i64 y, .slice sld q capd] 93))
      have hs := H2.out.size
      go_wp2_with (first | (at_builtin; refine wpList_append_lies _ rfl (.tmp 13) (.tmp 16) 40 rfl w0.heap.size 2 i0 (.int .i64 0) 1 8 Try.underlying40 hi0 hz0 hz1 hz2 rfl (by decide) _ _ _ rfl (hown.out.alloc _) ⟨wr.heap.size + 1, 0, none⟩ 1 1 [.int .i64 z] (by simp [Act.eval]) rfl (cell_one_new' _ _ _ _) (by intro u hu; simp at hu; subst hu; rfl) (by decide) (by unfold maxLen; omega) (by omega) (by simp; omega) (wr.heap.size + 2) (by simp) ?_))
      intro g9 cap9 w9 own9 grow9 hg9 hlt9
      have B9 := Lib.hid ((bA (bA H2.out (.cells #[.int .i64 z, .int .i64 y, .slice sld q capd] 93)) (.cells #[.int .i64 z] 2)).grown grow9 (by simp; omega) (fun j hj => (hown.out.lt j hj).1))
      rw [EV.out] at own9
      have N9 := Lib.hid own9
      clear own9 grow9 hg9 hlt9 hown
      go_wp2
      go_roundw
      case rel => exact ⟨k + 1, by go_num, by omega, N9, B9⟩
      case measure => simp [intOf]; omega
    · have h1' : ¬ (k : Int) < (n : Int) := by omega
      have e : k = n := by omega
      have F := Lib.hid (show (idsL rs).take k = idsL rs from List.take_of_length_le (by rw [idsL_len, HN.out]; omega))
      have H9 := own_mono H1.out B0.out.size
      rw [F.out, e] at H9
      have P := Lib.hid (And.intro H9 (B0.out.trans (H2.out.mono B0.out.size)))
      clear H9 H1
      go_wp2
      go_ret
      exact ⟨_, rfl, P.out.1, P.out.2⟩

set_option maxHeartbeats 400000 in
theorem ids_nil (sl : Option Addr) (cap : Nat) (sl2 : Option Addr) (m cap2 : Nat) (w : World) :
    Calls Try.prog 129 #[TV sl 0 cap sl2 m cap2] w fun e w' => e = .returned (.slice none 0 0) ∧ Below w.heap.size w w' := by
  go_enter Try.func129, Try.ntmps129
  go_wp2
  refine wp_loop_rounds 1 ?_
  rw [rounds_succ]
  go_wp2
  go_ret
  exact ⟨rfl, bA0 _ _⟩
theorem ids_any (sl : Option Addr) (cap : Nat) (sl2 : Option Addr) (m cap2 : Nat) (rs : List LSt) (w : World) (hn : rs.length ≤ 1048576) (hz : Sts w sl rs) :
    Calls Try.prog 129 #[TV sl rs.length cap sl2 m cap2] w fun e w' => ∃ v, e = .returned v ∧ w'.ownsRow w.heap.size 2 1 v rs.length (valsZ (idsL rs)) ∧ Below w.heap.size w w' := by
  rcases hz.row with rfl | ⟨c, o, rfl, h⟩
  · refine (ids_nil sl cap sl2 m cap2 w).mono ?_
    rintro e w' ⟨rfl, hb⟩
    exact ⟨_, rfl, ⟨rfl, .inl ⟨rfl, rfl⟩⟩, hb⟩
  · exact ids_some c o cap sl2 m cap2 rs w hn h hz.dom

end Go.Proofs.Ytdmfljejlhlbnaa
namespace Go.Proofs.Ytdmfljejlhlbnaa
open Go.RowKit
set_option linter.unusedVariables false

def DomIn0 (w : World) (r : LSt) : Prop := ∃ sl cap, r.2.2.1 = .slice sl r.2.2.2.length cap ∧ Ints w sl r.2.2.2 ∧ r.2.2.2.length ≤ maxLen
/-- A slice of stations of whatever size. -/
structure Sts0 (w : World) (sl : Option Addr) (rs : List LSt) : Prop where
  row : rs = [] ∨ ∃ c o, sl = some ⟨c, o, none⟩ ∧ StAt w c o rs
  dom : ∀ r ∈ rs, DomIn0 w r
theorem DomIn0.below {w w' : World} {r : LSt} (h : DomIn0 w r) (hb : Below w.heap.size w w') : DomIn0 w' r := by
  obtain ⟨sl, cap, e, hi, hl⟩ := h
  exact ⟨sl, cap, e, hi.below hb, hl⟩
theorem Sts0.below {w w' : World} {sl : Option Addr} {rs : List LSt} (h : Sts0 w sl rs) (hb : Below w.heap.size w w') : Sts0 w' sl rs := by
  refine ⟨?_, fun r hr => (h.dom r hr).below hb⟩
  rcases h.row with h | ⟨c, o, e, h⟩
  · exact .inl h
  · exact .inr ⟨c, o, e, h.below hb⟩
/-- All channels of all Domains. -/
def totD (rs : List LSt) : Nat := (rs.map fun r => r.2.2.2.length).sum
theorem totD_mem (rs : List LSt) (r : LSt) (h : r ∈ rs) : r.2.2.2.length ≤ totD rs := by
  induction rs with
  | nil => cases h
  | cons a l ih =>
    rcases List.mem_cons.1 h with rfl | h
    · simp [totD]
    · have := ih h; simp only [totD, List.map_cons, List.sum_cons] at *; omega

end Go.Proofs.Ytdmfljejlhlbnaa
namespace Go.Proofs.Ytdmfljejlhlbnaa
open Go.RowKit
set_option linter.unusedVariables false

theorem IntsAt.set {w : World} {c o : Nat} {zs : List Int} (h : IntsAt w c o zs) {b : Nat} (hb : c ≠ b) (i : Nat) (v : Value) : IntsAt (w.setCell ⟨b, i, none⟩ v) c o zs := by
  refine ⟨by simpa [World.setCell] using h.1, fun j hj => ?_⟩
  rw [← h.2 j hj]
  simp only [World.cell?]
  rw [Below.heap_setCell _ _ _ _ hb]
theorem Ints.set {w : World} {c o : Nat} {zs : List Int} (h : Ints w (some ⟨c, o, none⟩) zs) {b : Nat} (hb : c ≠ b) (i : Nat) (v : Value) : Ints (w.setCell ⟨b, i, none⟩ v) (some ⟨c, o, none⟩) zs := by
  rcases h with h | ⟨c', o', e, h⟩
  · exact .inl h
  · cases e; exact .inr ⟨_, _, rfl, h.set hb i v⟩

/-- A row of triples, the first of them written. -/
def Row3 (w : World) (b : Nat) (t : TypeId) (n : Nat) (ts : List (Value × Value × Value)) : Prop :=
  ∃ vs : Array Value, w.heap[b]? = some (.cells vs t) ∧ vs.size = n * 3 ∧ ∀ i (h : i < ts.length), vs[i * 3]? = some ts[i].1 ∧ vs[i * 3 + 1]? = some ts[i].2.1 ∧ vs[i * 3 + 2]? = some ts[i].2.2
theorem Row3.lt {w : World} {b : Nat} {t : TypeId} {n : Nat} {ts : List (Value × Value × Value)} (h : Row3 w b t n ts) : b < w.heap.size := by
  obtain ⟨vs, h1, _⟩ := h
  exact (Array.getElem?_eq_some_iff.1 h1).1
theorem Row3.below {w w' : World} {b : Nat} {t : TypeId} {n : Nat} {ts : List (Value × Value × Value)} (h : Row3 w b t n ts) (hb : Below w.heap.size w w') : Row3 w' b t n ts := by
  have hl := h.lt
  obtain ⟨vs, h1, h2, h3⟩ := h
  exact ⟨vs, (hb.block b hl).trans h1, h2, h3⟩
theorem Row3.there {w : World} {b : Nat} {t : TypeId} {n : Nat} {ts : List (Value × Value × Value)} (h : Row3 w b t n ts) (j : Nat) (hj : j < n * 3) : (∃ v, w.cell? ⟨b, j, none⟩ = some v) ∧ w.frozen? ⟨b, j, none⟩ = false := by
  obtain ⟨vs, h1, h2, h3⟩ := h
  exact ⟨⟨vs[j]'(by omega), by simp [World.cell?, h1, show j < vs.size by omega]⟩, by simp [World.frozen?, h1]⟩
theorem Row3.at {w : World} {b : Nat} {t : TypeId} {n : Nat} {ts : List (Value × Value × Value)} (h : Row3 w b t n ts) (i : Nat) (hi : i < ts.length) : w.cell? ⟨b, i * 3, none⟩ = some ts[i].1 ∧ w.cell? ⟨b, i * 3 + 1, none⟩ = some ts[i].2.1 ∧ w.cell? ⟨b, i * 3 + 2, none⟩ = some ts[i].2.2 := by
  obtain ⟨vs, h1, h2, h3⟩ := h
  have := h3 i hi
  refine ⟨?_, ?_, ?_⟩ <;> simp [World.cell?, h1, this]
theorem Row3.step {w : World} {b : Nat} {t : TypeId} {n : Nat} {ts : List (Value × Value × Value)} (h : Row3 w b t n ts) (hl : ts.length < n) (x y z : Value) (k : Nat) (hk : k = ts.length) :
    Row3 (((w.setCell ⟨b, k * 3, none⟩ x).setCell ⟨b, k * 3 + 1, none⟩ y).setCell ⟨b, k * 3 + 2, none⟩ z) b t n (ts ++ [(x, y, z)]) := by
  subst hk
  obtain ⟨vs, h1, h2, h3⟩ := h
  refine ⟨_, heap_setCell_same _ b _ _ t _ (heap_setCell_same _ b _ _ t _ (heap_setCell_same w b _ vs t x h1)), by simp [h2], fun i hi => ?_⟩
  simp only [List.length_append, List.length_singleton] at hi
  by_cases e : i < ts.length
  · obtain ⟨a1, a2, a3⟩ := h3 i e
    simp only [List.getElem_append_left e]
    refine ⟨?_, ?_, ?_⟩
    · rw [Array.getElem?_setIfInBounds_ne (by omega), Array.getElem?_setIfInBounds_ne (by omega), Array.getElem?_setIfInBounds_ne (by omega)]; exact a1
    · rw [Array.getElem?_setIfInBounds_ne (by omega), Array.getElem?_setIfInBounds_ne (by omega), Array.getElem?_setIfInBounds_ne (by omega)]; exact a2
    · rw [Array.getElem?_setIfInBounds_ne (by omega), Array.getElem?_setIfInBounds_ne (by omega), Array.getElem?_setIfInBounds_ne (by omega)]; exact a3
  · have e' : i = ts.length := by omega
    subst e'
    simp only [List.getElem_append_right (Nat.le_refl _), Nat.sub_self, List.getElem_cons_zero]
    refine ⟨?_, ?_, ?_⟩
    · rw [Array.getElem?_setIfInBounds_ne (by omega), Array.getElem?_setIfInBounds_ne (by omega), Array.getElem?_setIfInBounds_self_of_lt (by omega)]
    · rw [Array.getElem?_setIfInBounds_ne (by omega), Array.getElem?_setIfInBounds_self_of_lt (by simp; omega)]
    · rw [Array.getElem?_setIfInBounds_self_of_lt (by simp; omega)]

theorem new_at (w : World) (o : Obj) : (w.alloc o).heap[w.heap.size]? = some o := by
  show (w.heap.push _)[w.heap.size]? = _
  simp
def prT (p : LPr) : Value × Value × Value := (.int .i64 p.1, .int .i64 p.2.1, .int .i64 p.2.2)
def stT (r : LSt) : Value × Value × Value := (.int .i64 r.1, .int .i64 r.2.1, r.2.2.1)
/-- A station whose Domain has memory of its own, not in block b. -/
def DomOut (b : Nat) (w : World) (r : LSt) : Prop := ∃ g, r.2.2.1 = .slice (some ⟨g, 0, none⟩) r.2.2.2.length r.2.2.2.length ∧ Ints w (some ⟨g, 0, none⟩) r.2.2.2 ∧ b < g ∧ r.2.2.2.length ≤ 1048576
theorem DomOut.below {b : Nat} {w w' : World} {r : LSt} (h : DomOut b w r) (hb : Below w.heap.size w w') : DomOut b w' r := by
  obtain ⟨g, e, hi, hg, hl⟩ := h
  exact ⟨g, e, hi.below hb, hg, hl⟩
theorem DomOut.set {b : Nat} {w : World} {r : LSt} (h : DomOut b w r) (i : Nat) (v : Value) : DomOut b (w.setCell ⟨b, i, none⟩ v) r := by
  obtain ⟨g, e, hi, hg, hl⟩ := h
  exact ⟨g, e, hi.set (Nat.ne_of_gt hg) i v, hg, hl⟩
theorem DomOut.din {b : Nat} {w : World} {r : LSt} (h : DomOut b w r) : DomIn w r := by
  obtain ⟨g, e, hi, hg, hl⟩ := h
  exact ⟨_, _, e, hi, hl⟩

end Go.Proofs.Ytdmfljejlhlbnaa
namespace Go.Proofs.Ytdmfljejlhlbnaa
open Go.RowKit
set_option linter.unusedVariables false

/-- The numbers zs, in a block of their own. -/
def RowZ (w : World) (g : Nat) (zs : List Int) : Prop := RowAt w g (vsOf zs zs.length)
theorem RowZ.lt {w : World} {g : Nat} {zs : List Int} (h : RowZ w g zs) : g < w.heap.size := RowAt.lt h
theorem RowZ.below {w w' : World} {g : Nat} {zs : List Int} (h : RowZ w g zs) (hb : Below w.heap.size w w') : RowZ w' g zs := (hb.block g h.lt).trans h
theorem RowZ.set {w : World} {c : Nat} {zs : List Int} (h : RowZ w c zs) {b : Nat} (hb : c ≠ b) (i : Nat) (v : Value) : RowZ (w.setCell ⟨b, i, none⟩ v) c zs := (Below.heap_setCell _ _ _ _ hb).trans h
theorem RowZ.ints {w : World} {g : Nat} {zs : List Int} (h : RowZ w g zs) : Ints w (some ⟨g, 0, none⟩) zs := .inr ⟨g, 0, rfl, RowAt.ints h (Nat.le_refl _)⟩

/-- A station whose Domain has memory of its own, above block b. -/
def DomOwn (b : Nat) (w : World) (r : LSt) : Prop := ∃ g, r.2.2.1 = .slice (some ⟨g, 0, none⟩) r.2.2.2.length r.2.2.2.length ∧ RowZ w g r.2.2.2 ∧ b < g ∧ r.2.2.2.length ≤ 1048576
theorem DomOwn.below {b : Nat} {w w' : World} {r : LSt} (h : DomOwn b w r) (hb : Below w.heap.size w w') : DomOwn b w' r := by
  obtain ⟨g, e, hi, hg, hl⟩ := h
  exact ⟨g, e, hi.below hb, hg, hl⟩
theorem DomOwn.set {b : Nat} {w : World} {r : LSt} (h : DomOwn b w r) (i : Nat) (v : Value) : DomOwn b (w.setCell ⟨b, i, none⟩ v) r := by
  obtain ⟨g, e, hi, hg, hl⟩ := h
  exact ⟨g, e, hi.set (Nat.ne_of_gt hg) i v, hg, hl⟩
theorem DomOwn.din {b : Nat} {w : World} {r : LSt} (h : DomOwn b w r) : DomIn w r := by
  obtain ⟨g, e, hi, hg, hl⟩ := h
  exact ⟨_, _, e, hi.ints, hl⟩

/-- A table in memory of its own, from block C on. -/
structure OwnT (C : Nat) (w : World) (b1 b2 : Nat) (rs : List LSt) (ps : List LPr) : Prop where
  r1 : Row3 w b1 93 rs.length (rs.map stT)
  dom : ∀ r ∈ rs, DomOwn b1 w r
  r2 : Row3 w b2 112 ps.length (ps.map prT)
  lo1 : C ≤ b1
  lo2 : C ≤ b2
theorem OwnT.below {C : Nat} {w w' : World} {b1 b2 : Nat} {rs : List LSt} {ps : List LPr} (h : OwnT C w b1 b2 rs ps) (hb : Below w.heap.size w w') : OwnT C w' b1 b2 rs ps :=
  ⟨h.r1.below hb, fun r hr => (h.dom r hr).below hb, h.r2.below hb, h.lo1, h.lo2⟩

end Go.Proofs.Ytdmfljejlhlbnaa
namespace Go.Proofs.Ytdmfljejlhlbnaa
open Go.RowKit
set_option linter.unusedVariables false

/-- Of the blocks that were there only block b may have turned. -/
structure Only (b : Nat) (w w' : World) : Prop where
  os : w'.os = w.os
  tape : w'.tape = w.tape
  output : w'.output = w.output
  size : w.heap.size ≤ w'.heap.size
  block : ∀ k, k < w.heap.size → k ≠ b → w'.heap[k]? = w.heap[k]?

theorem Only.refl (b : Nat) (w : World) : Only b w w := ⟨rfl, rfl, rfl, Nat.le_refl _, fun _ _ _ => rfl⟩
theorem Only.trans {b : Nat} {u v w : World} (h : Only b u v) (k : Only b v w) : Only b u w :=
  ⟨k.os.trans h.os, k.tape.trans h.tape, k.output.trans h.output, Nat.le_trans h.size k.size, fun i hi hb => (k.block i (Nat.lt_of_lt_of_le hi h.size) hb).trans (h.block i hi hb)⟩
theorem Only.drewN {b : Nat} {u v : World} (h : Only b u v) (n : Nat) : Only b u (v.drewN n) := ⟨h.os, h.tape, h.output, h.size, h.block⟩
theorem Only.drew {b : Nat} {u v : World} (h : Only b u v) : Only b u v.drew := ⟨h.os, h.tape, h.output, h.size, h.block⟩
theorem Only.setCell {b : Nat} {u v : World} (h : Only b u v) (o : Nat) (x : Value) : Only b u (v.setCell ⟨b, o, none⟩ x) :=
  h.trans ⟨rfl, rfl, rfl, by simp [World.setCell], fun k _ hk => Below.heap_setCell _ _ _ _ hk⟩
theorem Only.alloc {b : Nat} {u v : World} (h : Only b u v) (o : Obj) : Only b u (v.alloc o) :=
  h.trans ⟨rfl, rfl, rfl, by simp, fun k hk _ => Below.heap_alloc _ _ _ hk⟩
theorem Only.of_below {b : Nat} {u v : World} (h : Below u.heap.size u v) : Only b u v := ⟨h.os, h.tape, h.output, h.size, fun k hk _ => h.block k hk⟩
theorem Only.below {b : Nat} {u v w : World} (h : Below u.heap.size u v) (hb : u.heap.size ≤ b) (k : Only b v w) : Below u.heap.size u w :=
  ⟨k.os.trans h.os, k.tape.trans h.tape, k.output.trans h.output, Nat.le_trans h.size k.size, fun i hi => (k.block i (Nat.lt_of_lt_of_le hi h.size) (by omega)).trans (h.block i hi)⟩
theorem Only.cell {b : Nat} {w w' : World} (h : Only b w w') {c o : Nat} (hc : c < w.heap.size) (hb : c ≠ b) : w'.cell? ⟨c, o, none⟩ = w.cell? ⟨c, o, none⟩ := World.cell?_of_block (w := w) (h.block c hc hb)
theorem Only.frozen {b : Nat} {w w' : World} (h : Only b w w') {c o : Nat} (hc : c < w.heap.size) (hb : c ≠ b) : w'.frozen? ⟨c, o, none⟩ = w.frozen? ⟨c, o, none⟩ := World.frozen?_of_block (w := w) (h.block c hc hb)

/-- The n numbers from k on. -/
def marks (k : Int) (n : Nat) : List Int := (List.range n).map (fun i : Nat => k + (i : Int))
/-- The first i cells of a row hold the marks. -/
def Marked (w : World) (b s : Nat) (k : Int) (i : Nat) : Prop := ∃ vs : Array Value, RowAt w b vs ∧ vs.size = s ∧ ∀ j, j < i → vs[j]? = some (.int .i64 (k + (j : Int)))
theorem Marked.step {w : World} {b s : Nat} {k : Int} {i : Nat} (h : Marked w b s k i) (hi : i < s) : Marked (w.setCell ⟨b, i, none⟩ (.int .i64 (k + (i : Int)))) b s k (i + 1) := by
  obtain ⟨vs, h1, h2, h3⟩ := h
  refine ⟨_, h1.set i _, by simp [h2], fun j hj => ?_⟩
  rw [Array.getElem?_setIfInBounds]
  by_cases e : i = j
  · subst e; simp [h2, hi]
  · rw [if_neg e]; exact h3 j (by omega)
theorem Marked.cell {w : World} {b s : Nat} {k : Int} {i : Nat} (h : Marked w b s k i) (j : Nat) (hj : j < s) : (∃ v, w.cell? ⟨b, j, none⟩ = some v) ∧ w.frozen? ⟨b, j, none⟩ = false := by
  obtain ⟨vs, h1, h2, h3⟩ := h
  exact ⟨⟨vs[j]'(by omega), by rw [h1.cell j]; exact Array.getElem?_eq_getElem (by omega)⟩, h1.frozen j⟩
theorem Marked.at {w : World} {b s : Nat} {k : Int} {i : Nat} (h : Marked w b s k i) (j : Nat) (hj : j < i) : w.cell? ⟨b, j, none⟩ = some (.int .i64 (k + (j : Int))) := by
  obtain ⟨vs, h1, h2, h3⟩ := h
  rw [h1.cell j]; exact h3 j hj

theorem Only.grownBy {b : Nat} {w w' : World} (h : Only b w w') : w.grownBy w' (some b) := ⟨h.os, h.tape, h.output, h.size, fun k hk hne => h.block k hk (fun e => hne (by rw [e]))⟩
/-- Nothing has turned but blocks from B on, below L. -/
structure Btw (B L : Nat) (w w' : World) : Prop where
  os : w'.os = w.os
  tape : w'.tape = w.tape
  output : w'.output = w.output
  size : w.heap.size ≤ w'.heap.size
  block : ∀ k, k < w.heap.size → (k < B ∨ L ≤ k) → w'.heap[k]? = w.heap[k]?
theorem Btw.refl (B L : Nat) (w : World) : Btw B L w w := ⟨rfl, rfl, rfl, Nat.le_refl _, fun _ _ _ => rfl⟩
theorem Btw.trans {B L : Nat} {u v w : World} (h : Btw B L u v) (k : Btw B L v w) : Btw B L u w :=
  ⟨k.os.trans h.os, k.tape.trans h.tape, k.output.trans h.output, Nat.le_trans h.size k.size, fun j hj hc => (k.block j (Nat.lt_of_lt_of_le hj h.size) hc).trans (h.block j hj hc)⟩
theorem Btw.grown {B L : Nat} {w0 w w' : World} {row : Option Nat} (h : Btw B L w0 w) (hg : w.grownBy w' row) (hr : ∀ j, row = some j → B ≤ j ∧ j < L) : Btw B L w0 w' :=
  h.trans ⟨hg.os, hg.tape, hg.output, hg.size, fun k hk hc => hg.block k hk (fun e => by have := hr k e.symm; omega)⟩
theorem Btw.alloc {B L : Nat} (w : World) (o : Obj) : Btw B L w (w.alloc o) := (Btw.refl B L w).grown (World.grownBy_alloc w o none) (fun j hj => by cases hj)
theorem Btw.below {B L : Nat} {w w' : World} (h : Btw B L w w') (hB : B ≤ w.heap.size) : Below B w w' := ⟨h.os, h.tape, h.output, h.size, fun k hk => h.block k (Nat.lt_of_lt_of_le hk hB) (.inl hk)⟩
theorem Btw.only {B L g : Nat} {w0 w w' : World} (h : Btw B L w0 w) (hg : Only g w w') (h1 : B ≤ g) (h2 : g < L) : Btw B L w0 w' := h.grown hg.grownBy (fun j hj => by cases hj; exact ⟨h1, h2⟩)
theorem own_btw {B L C : Nat} {e : TypeId} {m : Nat} {v : Value} {n : Nat} {xs : List Value} {w w' : World} (h : w.ownsRow C e m v n xs) (hb : Btw B L w w') (hc : ∀ j, v.ownBlock = some j → j < B ∨ L ≤ j) : w'.ownsRow C e m v n xs := by
  refine ⟨h.1, ?_⟩
  rcases h.2 with h | ⟨g, cap, cur, hv, hg, hh, r⟩
  · exact .inl h
  · exact .inr ⟨g, cap, cur, hv, hg, (hb.block g (Array.getElem?_eq_some_iff.1 hh).1 (hc g (by rw [hv]; rfl))).trans hh, r⟩

/-- A row of stations whose Domains are rows of their own, all from block C on and below L. -/
structure StM (C L : Nat) (w : World) (b : Nat) (rs : List LSt) : Prop where
  row : ∃ vs : Array Value, w.heap[b]? = some (.cells vs 93) ∧ vs.size = rs.length * 3 ∧ ∀ i (h : i < rs.length), vs[i * 3 + 2]? = some rs[i].2.2.1
  dom : ∀ r ∈ rs, ∃ g us, r.2.2.1 = .slice (some ⟨g, 0, none⟩) r.2.2.2.length r.2.2.2.length ∧ RowAt w g us ∧ us.size = r.2.2.2.length ∧ C ≤ g ∧ g < L
  lo : C ≤ b
  hi : b < L
theorem StM.below {C L : Nat} {w w' : World} {b : Nat} {rs : List LSt} (h : StM C L w b rs) (hb : Below w.heap.size w w') : StM C L w' b rs := by
  refine ⟨?_, fun r hr => ?_, h.lo, h.hi⟩
  · obtain ⟨vs, h1, h2⟩ := h.row
    exact ⟨vs, (hb.block b (Array.getElem?_eq_some_iff.1 h1).1).trans h1, h2⟩
  · obtain ⟨g, us, e, hz, r⟩ := h.dom r hr
    exact ⟨g, us, e, (hb.block g hz.lt).trans hz, r⟩
theorem StM.kind {C L : Nat} {w : World} {b : Nat} {rs : List LSt} (h : StM C L w b rs) (o : Nat) (ho : ∀ i, o ≠ i * 3 + 2) (v : Value) : StM C L (w.setCell ⟨b, o, none⟩ v) b rs := by
  obtain ⟨vs, h1, h2, h3⟩ := h.row
  refine ⟨⟨_, heap_setCell_same w b o vs 93 v h1, by simp [h2], fun i hi => ?_⟩, fun r hr => ?_, h.lo, h.hi⟩
  · rw [Array.getElem?_setIfInBounds_ne (ho i)]; exact h3 i hi
  · obtain ⟨g, us, e, hz, r⟩ := h.dom r hr
    have hne : g ≠ b := by
      rintro rfl
      have hz' : w.heap[g]? = some (.cells us 2) := hz
      rw [h1] at hz'
      simp at hz'
    exact ⟨g, us, e, (Below.heap_setCell _ _ _ _ hne).trans hz, r⟩
theorem StM.there {C L : Nat} {w : World} {b : Nat} {rs : List LSt} (h : StM C L w b rs) (j : Nat) (hj : j < rs.length * 3) : (∃ v, w.cell? ⟨b, j, none⟩ = some v) ∧ w.frozen? ⟨b, j, none⟩ = false := by
  obtain ⟨vs, h1, h2, h3⟩ := h.row
  exact ⟨⟨vs[j]'(by omega), by simp [World.cell?, h1, show j < vs.size by omega]⟩, by simp [World.frozen?, h1]⟩
theorem StM.at {C L : Nat} {w : World} {b : Nat} {rs : List LSt} (h : StM C L w b rs) (i : Nat) (hi : i < rs.length) : w.cell? ⟨b, i * 3 + 2, none⟩ = some rs[i].2.2.1 := by
  obtain ⟨vs, h1, h2, h3⟩ := h.row
  simp [World.cell?, h1, h3 i hi]
/-- What no mark of a station touches: rows of pairs. -/
def Keep (w w' : World) : Prop := ∀ (b : Nat) (vs : Array Value), w.heap[b]? = some (.cells vs 112) → w'.heap[b]? = some (.cells vs 112)
theorem Keep.refl (w : World) : Keep w w := fun _ _ h => h
theorem Keep.trans {u v w : World} (h : Keep u v) (k : Keep v w) : Keep u w := fun b vs g => k b vs (h b vs g)
theorem Keep.only {w w' : World} {g : Nat} {t : TypeId} {us : Array Value} (ho : Only g w w') (hg : w.heap[g]? = some (.cells us t)) (ht : t ≠ 112) : Keep w w' := fun b vs h => by
  refine (ho.block b (Array.getElem?_eq_some_iff.1 h).1 ?_).trans h
  rintro rfl
  rw [h] at hg
  simp at hg
  exact ht hg.2.symm
theorem Keep.below {w w' : World} (hb : Below w.heap.size w w') : Keep w w' := fun b vs h => (hb.block b (Array.getElem?_eq_some_iff.1 h).1).trans h

end Go.Proofs.Ytdmfljejlhlbnaa
namespace Go.Proofs.Ytdmfljejlhlbnaa
open Go.RowKit
set_option linter.unusedVariables false

def SrcAt (w : World) (b : Nat) (sl : Option Addr) (len cap k : Nat) (mix sz : Int) : Prop :=
  w.heap[b]? = some (.cells #[.slice sl len cap, .int .i64 k, .int .u64 mix, .int .i64 sz] 145)

theorem SrcAt.cells {w : World} {b : Nat} {sl : Option Addr} {len cap k : Nat} {mix sz : Int} (h : SrcAt w b sl len cap k mix sz) :
    w.cell? ⟨b, 0, none⟩ = some (.slice sl len cap) ∧ w.cell? ⟨b, 1, none⟩ = some (.int .i64 k) ∧ w.cell? ⟨b, 2, none⟩ = some (.int .u64 mix) ∧ w.cell? ⟨b, 3, none⟩ = some (.int .i64 sz) ∧ (∀ o, w.frozen? ⟨b, o, none⟩ = false) := by
  unfold SrcAt at h
  refine ⟨?_, ?_, ?_, ?_, fun o => ?_⟩ <;> simp [World.cell?, World.frozen?, h]

theorem SrcAt.store1 {w : World} {b : Nat} {sl : Option Addr} {len cap k : Nat} {mix sz : Int} (h : SrcAt w b sl len cap k mix sz) (n k' : Nat) :
    SrcAt ((w.drewN n).setCell ⟨b, 1, none⟩ (.int .i64 k')) b sl len cap k' mix sz ∧ Only b w ((w.drewN n).setCell ⟨b, 1, none⟩ (.int .i64 k')) :=
  ⟨heap_setCell_same (w.drewN n) b 1 _ 145 _ h, ((Only.refl b w).drewN n).setCell _ _⟩
theorem SrcAt.next {w : World} {b : Nat} {sl : Option Addr} {len cap k : Nat} {mix sz : Int} (h : SrcAt w b sl len cap k mix sz) (n : Nat) :
    SrcAt ((w.drewN n).setCell ⟨b, 1, none⟩ (.int .i64 ((k : Int) + 1))) b sl len cap (k + 1) mix sz ∧ Only b w ((w.drewN n).setCell ⟨b, 1, none⟩ (.int .i64 ((k : Int) + 1))) :=
  h.store1 n (k + 1)
theorem SrcAt.store2 {w : World} {b : Nat} {sl : Option Addr} {len cap k : Nat} {mix sz : Int} (h : SrcAt w b sl len cap k mix sz) (n : Nat) (v : Int) :
    SrcAt ((w.drewN n).setCell ⟨b, 2, none⟩ (.int .u64 v)) b sl len cap k v sz ∧ Only b w ((w.drewN n).setCell ⟨b, 2, none⟩ (.int .u64 v)) :=
  ⟨heap_setCell_same (w.drewN n) b 2 _ 145 _ h, ((Only.refl b w).drewN n).setCell _ _⟩
theorem SrcAt.store2' {w : World} {b : Nat} {sl : Option Addr} {len cap k : Nat} {mix sz : Int} (h : SrcAt w b sl len cap k mix sz) (v : Int) :
    SrcAt (w.setCell ⟨b, 2, none⟩ (.int .u64 v)).drew b sl len cap k v sz ∧ Only b w (w.setCell ⟨b, 2, none⟩ (.int .u64 v)).drew :=
  ⟨heap_setCell_same w b 2 _ 145 _ h, ((Only.refl b w).setCell _ _).drew⟩
theorem SrcAt.drewN {w : World} {b : Nat} {sl : Option Addr} {len cap k : Nat} {mix sz : Int} (h : SrcAt w b sl len cap k mix sz) (n : Nat) : SrcAt (w.drewN n) b sl len cap k mix sz := h

/-- The bytes behind the source lie elsewhere and can be read. -/
def BytesAt (w : World) (b : Nat) (sl : Option Addr) (len : Nat) : Prop :=
  ∀ i, i < len → ∃ c o : Nat, ∃ z : Int, sl = some ⟨c, o, none⟩ ∧ c ≠ b ∧ c < w.heap.size ∧ 0 ≤ z ∧ z ≤ 255 ∧ w.cell? ⟨c, o + i, none⟩ = some (.int .u8 z)

theorem BytesAt.only {w w' : World} {b : Nat} {sl : Option Addr} {len : Nat} (h : BytesAt w b sl len) (ho : Only b w w') : BytesAt w' b sl len := by
  intro i hi
  obtain ⟨c, o, z, e, hc, hs, z1, z2, hz⟩ := h i hi
  exact ⟨c, o, z, e, hc, Nat.lt_of_lt_of_le hs ho.size, z1, z2, (ho.cell hs hc).trans hz⟩

def Src (w : World) (b : Nat) : Prop :=
  ∃ (sl : Option Addr) (len cap k : Nat) (mix sz : Int), SrcAt w b sl len cap k mix sz ∧ BytesAt w b sl len ∧ k ≤ len ∧ len ≤ maxLen ∧ 0 ≤ mix ∧ mix < 18446744073709551616 ∧ 0 ≤ sz ∧ sz ≤ 12 ∧ b < w.heap.size

theorem bits_lt (op : BinOp) (x y : Int) : 0 ≤ bits op .u64 x y ∧ bits op .u64 x y < 18446744073709551616 := by
  unfold bits; rw [IntKind.wrap_u64]; omega
theorem wrap_lt (n : Int) : 0 ≤ IntKind.u64.wrap n ∧ IntKind.u64.wrap n < 18446744073709551616 := by rw [IntKind.wrap_u64]; omega

theorem wr64 (x : Int) (h0 : 0 ≤ x) (h1 : x < 9223372036854775808) : wrap64 x = x := by unfold wrap64; omega

set_option maxHeartbeats 400000 in
theorem n_small (p : Value) (m : Int) (hm : m ≤ 1) (w : World) :
    Calls Try.prog 67 #[p, .int .i64 m] w fun e w' => e = .returned (.int .i64 0) ∧ w' = w := by
  go_enter Try.func67, Try.ntmps67
  go_wp2
  go_ret
  exact ⟨rfl, rfl⟩

set_option maxHeartbeats 1000000 in
theorem n_late (b : Nat) (sl : Option Addr) (len cap : Nat) (k : Nat) (mix m sz : Int) (w : World) (hm : 1 < m) (hM : m ≤ 9223372036854775807) (hk : len ≤ k) (hm1 : 0 ≤ mix) (hm2 : mix < 18446744073709551616) (hs : SrcAt w b sl len cap k mix sz) :
    Calls Try.prog 67 #[.pointer (some ⟨b, 0, none⟩), .int .i64 m] w fun e w' => ∃ r mix' : Int, e = .returned (.int .i64 r) ∧ 0 ≤ r ∧ r < m ∧ 0 ≤ mix' ∧ mix' < 18446744073709551616 ∧ SrcAt w' b sl len cap k mix' sz ∧ Only b w w' := by
  have hlt : ¬ ((k : Int) < (len : Int)) := by omega
  have hd : decide ((k : Int) < (len : Int)) = false := decide_eq_false hlt
  have HS : Hid (SrcAt w b sl len cap k mix sz) := hs
  obtain ⟨c0, c1, c2, c3, f⟩ := hs.cells
  clear hs
  go_enter Try.func67, Try.ntmps67
  go_wp2
  go_quiet (fail)
  go_wp2
  go_region
  generalize hv1 : bits .xor .u64 mix (IntKind.u64.wrap (mix * 8192)) = v1
  obtain ⟨s1, o1⟩ := SrcAt.store2 HS.out (nq + 1) v1
  generalize (w.drewN (nq + 1)).setCell ⟨b, 2, none⟩ (.int .u64 v1) = w1 at *
  obtain ⟨v1a, v1b⟩ : 0 ≤ v1 ∧ v1 < 18446744073709551616 := by rw [← hv1]; exact bits_lt _ _ _
  clear hv1 c0 c1 c2 c3 f HS
  obtain ⟨c0, c1, c2, c3, f⟩ := s1.cells
  have HS : Hid (SrcAt w1 b sl len cap k v1 sz) := s1
  clear s1
  go_wp2
  go_region
  generalize hv2 : bits .xor .u64 v1 (v1 / 128) = v2
  obtain ⟨s2, o2⟩ := SrcAt.store2' HS.out v2
  generalize (w1.setCell ⟨b, 2, none⟩ (.int .u64 v2)).drew = w2 at *
  obtain ⟨v2a, v2b⟩ : 0 ≤ v2 ∧ v2 < 18446744073709551616 := by rw [← hv2]; exact bits_lt _ _ _
  clear hv2 c0 c1 c2 c3 f HS
  obtain ⟨c0, c1, c2, c3, f⟩ := s2.cells
  have HS : Hid (SrcAt w2 b sl len cap k v2 sz) := s2
  clear s2
  go_wp2
  go_region
  generalize hv3 : bits .xor .u64 v2 (IntKind.u64.wrap (v2 * 131072)) = v3
  obtain ⟨s3, o3⟩ := SrcAt.store2' HS.out v3
  generalize (w2.setCell ⟨b, 2, none⟩ (.int .u64 v3)).drew = w3 at *
  obtain ⟨v3a, v3b⟩ : 0 ≤ v3 ∧ v3 < 18446744073709551616 := by rw [← hv3]; exact bits_lt _ _ _
  clear hv3 c0 c1 c2 c3 f HS
  obtain ⟨c0, c1, c2, c3, f⟩ := s3.cells
  have HS : Hid (SrcAt w3 b sl len cap k v3 sz) := s3
  clear s3
  have O3 : Hid (Only b w w3) := (o1.trans o2).trans o3
  clear o1 o2 o3
  go_wp2
  go_ret
  have r1 : 0 ≤ v3 / 1048576 % m := Int.emod_nonneg _ (by omega)
  have r2 : v3 / 1048576 % m < m := Int.emod_lt_of_pos _ (by omega)
  exact ⟨_, v3, rfl, by rw [wr64 _ r1 (by omega)]; exact r1, by rw [wr64 _ r1 (by omega)]; exact r2, v3a, v3b, HS.out, O3.out⟩

set_option maxHeartbeats 1000000 in
theorem n_early (b : Nat) (c o : Nat) (len cap : Nat) (k : Nat) (mix m sz z : Int) (w : World) (hm : 1 < m) (hM : m ≤ 9223372036854775807) (hk : k < len) (hl : len ≤ maxLen) (hm1 : 0 ≤ mix) (hm2 : mix < 18446744073709551616) (hs : SrcAt w b (some ⟨c, o, none⟩) len cap k mix sz) (hz1 : 0 ≤ z) (hz2 : z ≤ 255) (hz : w.cell? ⟨c, o + k, none⟩ = some (.int .u8 z)) :
    Calls Try.prog 67 #[.pointer (some ⟨b, 0, none⟩), .int .i64 m] w fun e w' => ∃ r mix' : Int, e = .returned (.int .i64 r) ∧ 0 ≤ r ∧ r < m ∧ 0 ≤ mix' ∧ mix' < 18446744073709551616 ∧ SrcAt w' b (some ⟨c, o, none⟩) len cap (k + 1) mix' sz ∧ Only b w w' := by
  unfold maxLen at hl
  have hlt : ((k : Int) < (len : Int)) := by omega
  have hd : decide ((k : Int) < (len : Int)) = true := decide_eq_true hlt
  have hk0 : (0 : Int) ≤ (k : Int) := by omega
  have HS : Hid (SrcAt w b (some ⟨c, o, none⟩) len cap k mix sz) := hs
  obtain ⟨c0, c1, c2, c3, f⟩ := hs.cells
  clear hs
  go_enter Try.func67, Try.ntmps67
  go_wp2
  go_quiet (fail)
  revert nq; intro nq0
  go_wp2
  go_quiet (fail)
  go_wp2
  obtain ⟨s0, o0⟩ := SrcAt.next HS.out (nq0 + nq)
  generalize (w.drewN (nq0 + nq)).setCell ⟨b, 1, none⟩ (.int .i64 ((k : Int) + 1)) = w0 at *
  clear c0 c1 c2 c3 f HS hz
  obtain ⟨c0, c1, c2, c3, f⟩ := s0.cells
  have HS : Hid (SrcAt w0 b (some ⟨c, o, none⟩) len cap (k + 1) mix sz) := s0
  have O0 : Hid (Only b w w0) := o0
  clear s0 o0
  go_region
  generalize hv1 : bits .xor .u64 mix (IntKind.u64.wrap (mix * 8192)) = v1
  obtain ⟨s1, o1⟩ := SrcAt.store2' HS.out v1
  generalize (w0.setCell ⟨b, 2, none⟩ (.int .u64 v1)).drew = w1 at *
  obtain ⟨v1a, v1b⟩ : 0 ≤ v1 ∧ v1 < 18446744073709551616 := by rw [← hv1]; exact bits_lt _ _ _
  clear hv1 c0 c1 c2 c3 f HS
  obtain ⟨c0, c1, c2, c3, f⟩ := s1.cells
  have HS : Hid (SrcAt w1 b (some ⟨c, o, none⟩) len cap (k + 1) v1 sz) := s1
  clear s1
  go_wp2
  go_region
  generalize hv2 : bits .xor .u64 v1 (v1 / 128) = v2
  obtain ⟨s2, o2⟩ := SrcAt.store2' HS.out v2
  generalize (w1.setCell ⟨b, 2, none⟩ (.int .u64 v2)).drew = w2 at *
  obtain ⟨v2a, v2b⟩ : 0 ≤ v2 ∧ v2 < 18446744073709551616 := by rw [← hv2]; exact bits_lt _ _ _
  clear hv2 c0 c1 c2 c3 f HS
  obtain ⟨c0, c1, c2, c3, f⟩ := s2.cells
  have HS : Hid (SrcAt w2 b (some ⟨c, o, none⟩) len cap (k + 1) v2 sz) := s2
  clear s2
  go_wp2
  go_region
  generalize hv3 : bits .xor .u64 v2 (IntKind.u64.wrap (v2 * 131072)) = v3
  obtain ⟨s3, o3⟩ := SrcAt.store2' HS.out v3
  generalize (w2.setCell ⟨b, 2, none⟩ (.int .u64 v3)).drew = w3 at *
  obtain ⟨v3a, v3b⟩ : 0 ≤ v3 ∧ v3 < 18446744073709551616 := by rw [← hv3]; exact bits_lt _ _ _
  clear hv3 c0 c1 c2 c3 f HS
  obtain ⟨c0, c1, c2, c3, f⟩ := s3.cells
  have HS : Hid (SrcAt w3 b (some ⟨c, o, none⟩) len cap (k + 1) v3 sz) := s3
  clear s3
  have O3 : Hid (Only b w w3) := ((O0.out.trans o1).trans o2).trans o3
  clear o1 o2 o3 O0
  go_wp2
  go_ret
  have r1 : 0 ≤ (z + v3 / 1048576) % m := Int.emod_nonneg _ (by omega)
  have r2 : (z + v3 / 1048576) % m < m := Int.emod_lt_of_pos _ (by omega)
  exact ⟨_, v3, rfl, by rw [wr64 _ r1 (by omega)]; exact r1, by rw [wr64 _ r1 (by omega)]; exact r2, v3a, v3b, HS.out, O3.out⟩

end Go.Proofs.Ytdmfljejlhlbnaa
namespace Go.Proofs.Ytdmfljejlhlbnaa
open Go.RowKit
set_option linter.unusedVariables false

/-- A slice of bytes that can be read. -/
def RowIn (w : World) (sl : Option Addr) (len : Nat) : Prop :=
  len ≤ maxLen ∧ ∀ i, i < len → ∃ c o : Nat, ∃ z : Int, sl = some ⟨c, o, none⟩ ∧ c < w.heap.size ∧ 0 ≤ z ∧ z ≤ 255 ∧ w.cell? ⟨c, o + i, none⟩ = some (.int .u8 z)

theorem lt_of_cell {w : World} {a : Addr} {v : Value} (h : w.cell? a = some v) : a.block < w.heap.size := by
  unfold World.cell? at h
  cases e : w.heap[a.block]? with
  | none => simp [e] at h
  | some o => exact (Array.getElem?_eq_some_iff.1 e).1
theorem row_in {w : World} {a : Option Addr} {len cap : Nat} {zs : List Int}
    (h : (a = none ∧ len = 0 ∧ cap = 0 ∧ zs = []) ∨ ∃ x, a = some x ∧ len ≤ cap ∧ cap ≤ maxLen ∧ zs.length = cap ∧ (∀ i, i < zs.length → w.cell? (x.add i) = some (.int .u8 (zs.getD i 0))) ∧ ∀ n ∈ zs, (Lit.int .u8 n).wf = true) : RowIn w a len := by
  rcases h with ⟨rfl, rfl, rfl, rfl⟩ | ⟨x, rfl, hl, hm, hz, hc, hw⟩
  · exact ⟨Nat.zero_le _, fun i hi => absurd hi (Nat.not_lt_zero _)⟩
  · refine ⟨Nat.le_trans hl hm, fun i hi => ?_⟩
    obtain ⟨c, o, spot⟩ := x
    have h0 := hc 0 (by omega)
    have hs : spot = none := by simpa [Addr.add] using World.cell?_spot h0
    subst hs
    have ha : (⟨c, o, none⟩ : Addr).add i = ⟨c, o + i, none⟩ := by
      unfold Addr.add
      by_cases h : i = 0 <;> simp [h]
    have h1 := hc i (by omega)
    rw [ha] at h1
    have h2 := hw (zs.getD i 0) (by rw [show zs.getD i 0 = zs[i]'(by omega) by simp [show i < zs.length by omega]]; exact List.getElem_mem _)
    have h3 : 0 ≤ zs.getD i 0 ∧ zs.getD i 0 ≤ 255 := by simpa [Lit.wf, IntKind.min, IntKind.max, IntKind.signed, IntKind.bits] using h2
    exact ⟨c, o, _, rfl, lt_of_cell h1, h3.1, h3.2, h1⟩

theorem RowIn.below {w w' : World} {sl : Option Addr} {len : Nat} (h : RowIn w sl len) (hb : Below w.heap.size w w') : RowIn w' sl len := by
  refine ⟨h.1, fun i hi => ?_⟩
  obtain ⟨c, o, z, e, hs, z1, z2, hz⟩ := h.2 i hi
  exact ⟨c, o, z, e, Nat.lt_of_lt_of_le hs hb.size, z1, z2, (hb.cell hs).trans hz⟩
theorem RowIn.bytes {w : World} {sl : Option Addr} {len : Nat} (h : RowIn w sl len) (ob : Obj) : BytesAt (w.alloc ob) w.heap.size sl len := by
  intro i hi
  obtain ⟨c, o, z, e, hs, z1, z2, hz⟩ := h.2 i hi
  exact ⟨c, o, z, e, by omega, by simp; omega, z1, z2, ((bA0 w ob).cell hs).trans hz⟩

def src0 (sl : Option Addr) (len cap : Nat) : Obj := .cells #[.slice sl len cap, .int .i64 0, .int .u64 88172645463325252, .int .i64 0] 145
theorem src0_at (w : World) (sl : Option Addr) (len cap : Nat) : SrcAt (w.alloc (src0 sl len cap)) w.heap.size sl len cap 0 88172645463325252 0 := by
  show (w.heap.push _)[w.heap.size]? = _
  simp [src0]
theorem SrcAt.store3 {w : World} {b : Nat} {sl : Option Addr} {len cap k : Nat} {mix sz : Int} (h : SrcAt w b sl len cap k mix sz) (v : Int) :
    SrcAt (w.setCell ⟨b, 3, none⟩ (.int .i64 v)) b sl len cap k mix v ∧ Only b w (w.setCell ⟨b, 3, none⟩ (.int .i64 v)) :=
  ⟨heap_setCell_same w b 3 _ 145 _ h, (Only.refl b w).setCell _ _⟩

theorem RowIn.split {w : World} {sl : Option Addr} {len : Nat} (h : RowIn w sl len) : len = 0 ∨ ∃ c o : Nat, sl = some ⟨c, o, none⟩ ∧ c < w.heap.size ∧ ∀ i, i < len → ∃ z : Int, 0 ≤ z ∧ z ≤ 255 ∧ w.cell? ⟨c, o + i, none⟩ = some (.int .u8 z) := by
  by_cases h0 : len = 0
  · exact .inl h0
  · obtain ⟨c, o, z, e, hs, z1, z2, hz⟩ := h.2 0 (by omega)
    refine .inr ⟨c, o, e, hs, fun i hi => ?_⟩
    obtain ⟨c', o', z, e', hs, z1, z2, hz⟩ := h.2 i hi
    rw [e] at e'
    simp only [Option.some.injEq, Addr.mk.injEq, and_true] at e'
    obtain ⟨rfl, rfl⟩ := e'
    exact ⟨z, z1, z2, hz⟩

theorem src_end {w w1 : World} {sl : Option Addr} {len cap : Nat} {mix v : Int} (hr : RowIn w sl len) (ho : Only w.heap.size (w.alloc (src0 sl len cap)) w1) (hs : SrcAt w1 w.heap.size sl len cap 0 mix v) (m1 : 0 ≤ mix) (m2 : mix < 18446744073709551616) (v1 : 0 ≤ v) (v2 : v ≤ 12) :
    Src w1 w.heap.size ∧ Below w.heap.size w w1 := by
  have hz := ho.size
  simp at hz
  exact ⟨⟨sl, len, cap, 0, mix, v, hs, (hr.bytes (src0 sl len cap)).only ho, Nat.zero_le _, hr.1, m1, m2, v1, v2, by omega⟩, ho.below (bA0 _ _) (Nat.le_refl _)⟩

set_option maxHeartbeats 400000 in
theorem source_none (sl : Option Addr) (cap : Nat) (w : World) (hr : RowIn w sl 0) :
    Calls Try.prog 63 #[.slice sl 0 cap] w fun e w' => e = .returned (.pointer (some ⟨w.heap.size, 0, none⟩)) ∧ Src w' w.heap.size ∧ Below w.heap.size w w' := by
  have HR : Hid (RowIn w sl 0) := hr
  have HS : Hid (SrcAt (w.alloc (src0 sl 0 cap)) w.heap.size sl 0 cap 0 88172645463325252 0) := src0_at w sl 0 cap
  clear hr
  go_enter Try.func63, Try.ntmps63
  go_wp2
  refine wp_loop_rounds 1 ?_
  rw [rounds_succ]
  go_wp2
  go_ret
  exact ⟨rfl, src_end HR.out (Only.refl _ _) HS.out (by decide) (by decide) (by decide) (by decide)⟩

set_option maxHeartbeats 4000000 in
theorem source_some (c o : Nat) (len cap : Nat) (w : World) (hr : RowIn w (some ⟨c, o, none⟩) len) (hc : c < w.heap.size) (hz : ∀ i, i < len → ∃ z : Int, 0 ≤ z ∧ z ≤ 255 ∧ w.cell? ⟨c, o + i, none⟩ = some (.int .u8 z)) :
    Calls Try.prog 63 #[.slice (some ⟨c, o, none⟩) len cap] w fun e w' => e = .returned (.pointer (some ⟨w.heap.size, 0, none⟩)) ∧ Src w' w.heap.size ∧ Below w.heap.size w w' := by
  have hl := hr.1
  unfold maxLen at hl
  have HR : Hid (RowIn w (some ⟨c, o, none⟩) len) := hr
  have HZ : Hid (∀ i, i < len → ∃ z : Int, 0 ≤ z ∧ z ≤ 255 ∧ w.cell? ⟨c, o + i, none⟩ = some (.int .u8 z)) := hz
  clear hr hz
  go_enter Try.func63, Try.ntmps63
  go_wp2
  go_loopw [4] (fun i w1 => ∃ (k : Nat) (mix : Int), i = .int .i64 k ∧ k ≤ len ∧ k ≤ 64 ∧ 0 ≤ mix ∧ mix < 18446744073709551616 ∧ SrcAt w1 w.heap.size (some ⟨c, o, none⟩) len cap 0 mix 0 ∧ Only w.heap.size (w.alloc (src0 (some ⟨c, o, none⟩) len cap)) w1) (fun i _ => 64 - (intOf i).toNat)
  case atStart => exact ⟨0, 88172645463325252, rfl, Nat.zero_le _, Nat.zero_le _, by decide, by decide, src0_at w _ _ _, Only.refl _ _⟩
  case round =>
    obtain ⟨k, mix, rfl, hk1, hk2, m1, m2, hs, ho⟩ := hrel
    have HO : Hid (Only w.heap.size (w.alloc (src0 (some ⟨c, o, none⟩) len cap)) wr) := ho
    have HS : Hid (SrcAt wr w.heap.size (some ⟨c, o, none⟩) len cap 0 mix 0) := hs
    obtain ⟨c0, c1, c2, c3, f⟩ := hs.cells
    have hk0 : (0 : Int) ≤ (k : Int) := by omega
    by_cases h1 : k < len
    · by_cases h2 : k < 64
      · obtain ⟨z, z1, z2, hz⟩ := HZ.out k h1
        have hz' : wr.cell? ⟨c, o + k, none⟩ = some (.int .u8 z) := by
          rw [ho.cell (by simp; omega) (by omega), (bA0 w _).cell hc]; exact hz
        have h1' : (k : Int) < (len : Int) := by omega
        have h2' : (k : Int) < 64 := by omega
        clear hz ho hs
        go_wp2
        go_region
        go_wp2
        go_roundw
        case rel =>
          obtain ⟨s1, o1⟩ := SrcAt.store2' HS.out (IntKind.u64.wrap (bits BinOp.xor IntKind.u64 mix z * 1099511628211))
          exact ⟨k + 1, _, by go_num, by omega, by omega, (wrap_lt _).1, (wrap_lt _).2, s1, HO.out.trans o1⟩
        case measure => simp [intOf]; omega
      · have h1' : (k : Int) < (len : Int) := by omega
        have h2' : decide ((k : Int) < 64) = false := by simp; omega
        obtain ⟨s1, o1⟩ := SrcAt.store3 HS.out ((len : Int) / 20)
        have O1 : Hid (Only w.heap.size (w.alloc (src0 (some ⟨c, o, none⟩) len cap)) (wr.setCell ⟨w.heap.size, 3, none⟩ (.int .i64 ((len : Int) / 20)))) := HO.out.trans o1
        obtain ⟨e0, e1, e2, e3, g⟩ := s1.cells
        have S1 : Hid (SrcAt (wr.setCell ⟨w.heap.size, 3, none⟩ (.int .i64 ((len : Int) / 20))) w.heap.size (some ⟨c, o, none⟩) len cap 0 mix ((len : Int) / 20)) := s1
        clear s1 o1 hs ho
        have hp : (0 : Int) ≤ (len : Int) / 20 := by omega
        by_cases hq : (12 : Int) < (len : Int) / 20
        · obtain ⟨s2, o2⟩ := SrcAt.store3 S1.out 12
          have O2 : Hid (Only w.heap.size (w.alloc (src0 (some ⟨c, o, none⟩) len cap)) ((wr.setCell ⟨w.heap.size, 3, none⟩ (.int .i64 ((len : Int) / 20))).setCell ⟨w.heap.size, 3, none⟩ (.int .i64 12))) := O1.out.trans o2
          have S2 : Hid (SrcAt ((wr.setCell ⟨w.heap.size, 3, none⟩ (.int .i64 ((len : Int) / 20))).setCell ⟨w.heap.size, 3, none⟩ (.int .i64 12)) w.heap.size (some ⟨c, o, none⟩) len cap 0 mix 12) := s2
          clear s2 o2
          go_wp2
          go_ret
          exact ⟨rfl, src_end HR.out O2.out S2.out m1 m2 (by decide) (by decide)⟩
        · go_wp2
          go_ret
          exact ⟨rfl, src_end HR.out O1.out S1.out m1 m2 hp (by omega)⟩
    · have h1' : decide ((k : Int) < (len : Int)) = false := by simp; omega
      obtain ⟨s1, o1⟩ := SrcAt.store3 HS.out ((len : Int) / 20)
      have O1 : Hid (Only w.heap.size (w.alloc (src0 (some ⟨c, o, none⟩) len cap)) (wr.setCell ⟨w.heap.size, 3, none⟩ (.int .i64 ((len : Int) / 20)))) := HO.out.trans o1
      obtain ⟨e0, e1, e2, e3, g⟩ := s1.cells
      have S1 : Hid (SrcAt (wr.setCell ⟨w.heap.size, 3, none⟩ (.int .i64 ((len : Int) / 20))) w.heap.size (some ⟨c, o, none⟩) len cap 0 mix ((len : Int) / 20)) := s1
      clear s1 o1 hs ho
      have hp : (0 : Int) ≤ (len : Int) / 20 := by omega
      have hq : (len : Int) / 20 ≤ 12 := by omega
      go_wp2
      go_ret
      exact ⟨rfl, src_end HR.out O1.out S1.out m1 m2 hp hq⟩

theorem source_any (sl : Option Addr) (len cap : Nat) (w : World) (hr : RowIn w sl len) :
    Calls Try.prog 63 #[.slice sl len cap] w fun e w' => e = .returned (.pointer (some ⟨w.heap.size, 0, none⟩)) ∧ Src w' w.heap.size ∧ Below w.heap.size w w' := by
  rcases hr.split with rfl | ⟨c, o, rfl, hc, hz⟩
  · exact source_none sl cap w hr
  · exact source_some c o len cap w hr hc hz

end Go.Proofs.Ytdmfljejlhlbnaa
namespace Go.Proofs.Ytdmfljejlhlbnaa
open Go.RowKit
set_option linter.unusedVariables false

theorem Src.other {w w' : World} {b : Nat} (h : Src w b) (ho : Below w.heap.size w w') : Src w' b := by
  obtain ⟨sl, len, cap, k, mix, sz, h, hb, hk, hl, m1, m2, z1, z2, hbs⟩ := h
  refine ⟨sl, len, cap, k, mix, sz, (ho.block b hbs).trans h, fun i hi => ?_, hk, hl, m1, m2, z1, z2, Nat.lt_of_lt_of_le hbs ho.size⟩
  obtain ⟨c, o, z, e, hc, hs, y1, y2, hz⟩ := hb i hi
  exact ⟨c, o, z, e, hc, Nat.lt_of_lt_of_le hs ho.size, y1, y2, (ho.cell hs).trans hz⟩
theorem Src.lt {w : World} {b : Nat} (h : Src w b) : b < w.heap.size := by
  obtain ⟨sl, len, cap, k, mix, sz, h, hb, hk, hl, m1, m2, z1, z2, hbs⟩ := h
  exact hbs

/-- A number of int64. -/
def I64 (v : Int) : Prop := -9223372036854775808 ≤ v ∧ v ≤ 9223372036854775807

theorem lit_cell {w w2 : World} {b : Nat} (zs : List Int) (ho : Only b (w.alloc (.cells (zs.map (Value.int .i64)).toArray 2)) w2) (hb : b < w.heap.size) (r : Int) (r1 : 0 ≤ r) (r2 : r < zs.length) :
    w2.cell? ⟨w.heap.size, r.toNat, none⟩ = some (.int .i64 (zs.getD r.toNat 0)) := by
  rw [ho.cell (by simp) (by omega)]
  have h : r.toNat < zs.length := by omega
  have e : (w.alloc (.cells (zs.map (Value.int .i64)).toArray 2)).heap[w.heap.size]? = some (.cells (zs.map (Value.int .i64)).toArray 2) := by
    show (w.heap.push _)[w.heap.size]? = _
    simp
  unfold World.cell?
  simp only [e]
  simp [h]
theorem lit_i64 (zs : List Int) (h : ∀ z ∈ zs, -9223372036854775808 ≤ z ∧ z ≤ 9223372036854775807) (i : Nat) : I64 (zs.getD i 0) := by
  unfold I64
  by_cases hi : i < zs.length
  · rw [show zs.getD i 0 = zs[i] by simp [hi]]; exact h _ (List.getElem_mem hi)
  · rw [show zs.getD i 0 = 0 by simp [hi]]; omega

def edges : List Int := [0, 1, -1, 2, 1000, 1001, 2147483648, 2147483647, -2147483648, 4611686018427387904, 9223372036854775807, -9223372036854775808, 1000000, 1000001]
theorem edges_ok (i : Nat) : I64 (edges.getD i 0) := lit_i64 edges (by decide) i

end Go.Proofs.Ytdmfljejlhlbnaa
namespace Go.Proofs.Ytdmfljejlhlbnaa
open Go.RowKit
set_option linter.unusedVariables false

theorem own_only {B : Nat} {e : TypeId} {m : Nat} {v : Value} {n : Nat} {xs : List Value} {b : Nat} {w w' : World} (h : w.ownsRow B e m v n xs) (ho : Only b w w') (hb : b < B) : w'.ownsRow B e m v n xs := by
  refine ⟨h.1, ?_⟩
  rcases h.2 with h | ⟨g, cap, cur, hv, hg, hh, r⟩
  · exact .inl h
  · exact .inr ⟨g, cap, cur, hv, hg, (ho.block g (Array.getElem?_eq_some_iff.1 hh).1 (by omega)).trans hh, r⟩
theorem Only.grown {b : Nat} {u v w : World} {row : Option Nat} (h : Only b u v) (hg : v.grownBy w row) (hr : ∀ g, row = some g → u.heap.size ≤ g) : Only b u w :=
  ⟨hg.os.trans h.os, hg.tape.trans h.tape, hg.output.trans h.output, Nat.le_trans h.size hg.size, fun k hk hb => (hg.block k (Nat.lt_of_lt_of_le hk h.size) (fun e => by have := hr k e.symm; omega)).trans (h.block k hk hb)⟩

/-- A source whose block and whose bytes lie below B. -/
def SrcB (B : Nat) (w : World) (b : Nat) : Prop :=
  b < B ∧ B ≤ w.heap.size ∧ ∃ (sl : Option Addr) (len cap k : Nat) (mix sz : Int), SrcAt w b sl len cap k mix sz ∧ BytesAt w b sl len ∧ (∀ i, i < len → ∃ c o : Nat, sl = some ⟨c, o, none⟩ ∧ c < B) ∧ k ≤ len ∧ len ≤ maxLen ∧ 0 ≤ mix ∧ mix < 18446744073709551616 ∧ 0 ≤ sz ∧ sz ≤ 12
theorem SrcB.of {w : World} {b : Nat} (h : Src w b) : SrcB w.heap.size w b := by
  obtain ⟨sl, len, cap, k, mix, sz, h, hb, hk, hl, m1, m2, z1, z2, hbs⟩ := h
  refine ⟨hbs, Nat.le_refl _, sl, len, cap, k, mix, sz, h, hb, fun i hi => ?_, hk, hl, m1, m2, z1, z2⟩
  obtain ⟨c, o, z, e, hc, hs, _⟩ := hb i hi
  exact ⟨c, o, e, hs⟩
theorem SrcB.src {B : Nat} {w : World} {b : Nat} (h : SrcB B w b) : Src w b := by
  obtain ⟨h0, h1, sl, len, cap, k, mix, sz, h, hb, hB, hk, hl, m1, m2, z1, z2⟩ := h
  exact ⟨sl, len, cap, k, mix, sz, h, hb, hk, hl, m1, m2, z1, z2, Nat.lt_of_lt_of_le h0 h1⟩
theorem SrcB.kept {B : Nat} {w w' : World} {b : Nat} (h : SrcB B w b) (hs : w.heap.size ≤ w'.heap.size) (hk : ∀ k, k < B → w'.heap[k]? = w.heap[k]?) : SrcB B w' b := by
  obtain ⟨h0, h1, sl, len, cap, k, mix, sz, h, hb, hB, hkl, hl, m1, m2, z1, z2⟩ := h
  refine ⟨h0, Nat.le_trans h1 hs, sl, len, cap, k, mix, sz, (hk b h0).trans h, fun i hi => ?_, hB, hkl, hl, m1, m2, z1, z2⟩
  obtain ⟨c, o, z, e, hc, hlt, y1, y2, hz⟩ := hb i hi
  obtain ⟨c', o', e', hc'⟩ := hB i hi
  rw [e] at e'
  simp only [Option.some.injEq, Addr.mk.injEq, and_true] at e'
  obtain ⟨rfl, rfl⟩ := e'
  exact ⟨c, o, z, e, hc, Nat.lt_of_lt_of_le hlt hs, y1, y2, (World.cell?_of_block (w := w) (hk c hc')).trans hz⟩
theorem SrcB.below {B : Nat} {w w' : World} {b : Nat} (h : SrcB B w b) (hb : Below w.heap.size w w') : SrcB B w' b := h.kept hb.size fun k hk => hb.block k (Nat.lt_of_lt_of_le hk h.2.1)
theorem SrcB.grown {B : Nat} {w w' : World} {b : Nat} {row : Option Nat} (h : SrcB B w b) (hg : w.grownBy w' row) (hr : ∀ g, row = some g → B ≤ g) : SrcB B w' b :=
  h.kept hg.size fun k hk => hg.block k (Nat.lt_of_lt_of_le hk h.2.1) (fun e => by have := hr k e.symm; omega)

theorem nB_any (B b : Nat) (m : Int) (w : World) (hM : m ≤ 9223372036854775807) (hs : SrcB B w b) :
    Calls Try.prog 67 #[.pointer (some ⟨b, 0, none⟩), .int .i64 m] w fun e w' => ∃ r : Int, e = .returned (.int .i64 r) ∧ 0 ≤ r ∧ (r < m ∨ r = 0) ∧ SrcB B w' b ∧ Only b w w' := by
  by_cases hm : m ≤ 1
  · refine (n_small _ m hm w).mono ?_
    rintro e w' ⟨rfl, rfl⟩
    exact ⟨0, rfl, by omega, .inr rfl, hs, Only.refl _ _⟩
  · obtain ⟨h0, hB0, sl, len, cap, k, mix, sz, h, hb, hB, hk, hl, m1, m2, z1, z2⟩ := hs
    by_cases hlt : k < len
    · obtain ⟨c, o, z, rfl, hc, hcs, hz1, hz2, hz⟩ := hb k hlt
      refine (n_early b c o len cap k mix m sz z w (by omega) hM hlt hl m1 m2 h hz1 hz2 hz).mono ?_
      rintro e w' ⟨r, mix', rfl, r1, r2, a1, a2, s, o⟩
      exact ⟨r, rfl, r1, .inl r2, ⟨h0, Nat.le_trans hB0 o.size, _, len, cap, k + 1, mix', sz, s, hb.only o, hB, hlt, hl, a1, a2, z1, z2⟩, o⟩
    · refine (n_late b sl len cap k mix m sz w (by omega) hM (by omega) m1 m2 h).mono ?_
      rintro e w' ⟨r, mix', rfl, r1, r2, a1, a2, s, o⟩
      exact ⟨r, rfl, r1, .inl r2, ⟨h0, Nat.le_trans hB0 o.size, sl, len, cap, k, mix', sz, s, hb.only o, hB, hk, hl, a1, a2, z1, z2⟩, o⟩
theorem nB_lt (B b : Nat) (m : Int) (w : World) (h1 : 1 ≤ m) (hM : m ≤ 9223372036854775807) (hs : SrcB B w b) :
    Calls Try.prog 67 #[.pointer (some ⟨b, 0, none⟩), .int .i64 m] w fun e w' => ∃ r : Int, e = .returned (.int .i64 r) ∧ 0 ≤ r ∧ r < m ∧ SrcB B w' b ∧ Only b w w' := by
  refine (nB_any B b m w hM hs).mono ?_
  rintro e w' ⟨r, rfl, r1, r2, s, o⟩
  exact ⟨r, rfl, r1, by omega, s, o⟩
set_option maxHeartbeats 400000 in
theorem oneB_any (B b : Nat) (m : Int) (w : World) (hM : m ≤ 9223372036854775807) (hs : SrcB B w b) :
    Calls Try.prog 97 #[.pointer (some ⟨b, 0, none⟩), .int .i64 m] w fun e w' => ∃ t : Bool, e = .returned (.bool t) ∧ SrcB B w' b ∧ Only b w w' := by
  have HS := Lib.hid hs
  clear hs
  go_enter Try.func97, Try.ntmps97
  go_wp2_with fail
  refine (nB_any B b m _ hM HS.out).mono ?_
  rintro e w1 ⟨r, rfl, r1, r2, s1, o1⟩
  have H1 : Hid (SrcB B w1 b ∧ Only b w w1) := ⟨s1, o1⟩
  clear s1 o1 r2
  go_wp2
  go_ret
  exact ⟨_, rfl, H1.out⟩
set_option maxRecDepth 100000 in
set_option maxHeartbeats 400000 in
theorem edgeB_any (B b : Nat) (w : World) (hs : SrcB B w b) :
    Calls Try.prog 121 #[.pointer (some ⟨b, 0, none⟩)] w fun e w' => ∃ v : Int, e = .returned (.int .i64 v) ∧ I64 v ∧ SrcB B w' b ∧ Only b w w' := by
  have HS := Lib.hid hs
  clear hs
  go_enter Try.func121, Try.ntmps121
  go_wp2_with fail
  refine (nB_lt B b 14 _ (by decide) (by decide) (HS.out.below (bA0 _ _))).mono ?_
  rintro e w1 ⟨r, rfl, r1, r2, s1, o1⟩
  have hc := lit_cell edges o1 (Nat.lt_of_lt_of_le HS.out.1 HS.out.2.1) r r1 r2
  have H1 : Hid (SrcB B w1 b ∧ Only b w w1) := ⟨s1, (Only.of_below (bA0 _ _)).trans o1⟩
  have HI : Hid (I64 (edges.getD r.toNat 0)) := edges_ok _
  generalize edges.getD r.toNat 0 = v at *
  clear s1 o1 HS
  go_wp2
  go_ret
  exact ⟨_, rfl, HI.out, H1.out⟩

end Go.Proofs.Ytdmfljejlhlbnaa
namespace Go.Proofs.Ytdmfljejlhlbnaa
open Go.RowKit
set_option linter.unusedVariables false

/-- The two stations of a pair. -/
def ends (p : LPr) : Int × Int := (p.1, p.2.1)
def Lt2 (x y : Int × Int) : Prop := x.1 < y.1 ∨ (x.1 = y.1 ∧ x.2 < y.2)
theorem Lt2.trans {x y z : Int × Int} (h : Lt2 x y) (k : Lt2 y z) : Lt2 x z := by unfold Lt2 at *; omega
theorem Lt2.irr (x : Int × Int) : ¬ Lt2 x x := by unfold Lt2; omega
theorem Lt2.tri {x y : Int × Int} (h : x ≠ y) : Lt2 x y ∨ Lt2 y x := by
  unfold Lt2
  by_cases e : x.1 = y.1
  · have : x.2 ≠ y.2 := fun e2 => h (Prod.ext e e2)
    omega
  · omega
def PrOK (ids : List Int) (p : LPr) : Prop := p.1 < p.2.1 ∧ (p.2.2 = 1 ∨ p.2.2 = 2) ∧ p.1 ∈ ids ∧ p.2.1 ∈ ids
def PSort (ps : List LPr) : Prop := (ps.map ends).Pairwise Lt2
/-- A right table. -/
def TabR (rs : List LSt) (ps : List LPr) : Prop :=
  (1 ≤ rs.length ∧ rs.length ≤ 12 ∧ ps.length ≤ 40) ∧ (∀ r ∈ rs, StOK r.2.1 r.2.2.2) ∧ InRise 1 999 (idsL rs) ∧ (∀ p ∈ ps, PrOK (idsL rs) p) ∧ PSort ps

/-- The first k stations are right. -/
def StTo (rs : List LSt) (k : Nat) : Prop := ∀ i (h : i < rs.length), i < k → ((1 ≤ rs[i].1 ∧ rs[i].1 ≤ 999) ∧ StOK rs[i].2.1 rs[i].2.2.2) ∧ (0 < i → (idsL rs).getD (i - 1) 0 < (idsL rs).getD i 0)
theorem StTo.zero (rs : List LSt) : StTo rs 0 := fun i h hk => absurd hk (Nat.not_lt_zero _)
theorem StTo.step {rs : List LSt} {k : Nat} (h : StTo rs k) (hk : k < rs.length) (h1 : (1 ≤ rs[k].1 ∧ rs[k].1 ≤ 999) ∧ StOK rs[k].2.1 rs[k].2.2.2) (h2 : 0 < k → (idsL rs).getD (k - 1) 0 < (idsL rs).getD k 0) : StTo rs (k + 1) := by
  intro i hi hik
  by_cases e : i = k
  · subst e; exact ⟨h1, h2⟩
  · exact h i hi (by omega)
theorem StTo.iff (rs : List LSt) : StTo rs rs.length ↔ (∀ r ∈ rs, StOK r.2.1 r.2.2.2) ∧ InRise 1 999 (idsL rs) := by
  constructor
  · intro h
    refine ⟨fun r hr => ?_, fun i hi => ?_⟩
    · obtain ⟨i, hi, rfl⟩ := List.getElem_of_mem hr
      exact (h i hi hi).1.2
    · rw [idsL_len] at hi
      refine ⟨?_, (h i hi hi).2⟩
      rw [idsL_get rs i hi]
      exact (h i hi hi).1.1
  · rintro ⟨h1, h2⟩ i hi hk
    have := h2 i (by rw [idsL_len]; exact hi)
    rw [idsL_get rs i hi] at this
    refine ⟨⟨this.1, h1 _ (List.getElem_mem hi)⟩, fun h0 => ?_⟩
    rw [idsL_get rs i hi]; exact this.2 h0
/-- The first k pairs are right and stand where they should. -/
def PrTo (ids : List Int) (ps : List LPr) (k : Nat) : Prop := ∀ i (h : i < ps.length), i < k → PrOK ids ps[i] ∧ ∀ h0 : 0 < i, Lt2 (ends (ps[i - 1]'(by omega))) (ends ps[i])
theorem PrTo.zero (ids : List Int) (ps : List LPr) : PrTo ids ps 0 := fun i h hk => absurd hk (Nat.not_lt_zero _)
theorem PrTo.step {ids : List Int} {ps : List LPr} {k : Nat} (h : PrTo ids ps k) (hk : k < ps.length) (h1 : PrOK ids ps[k]) (h2 : ∀ h0 : 0 < k, Lt2 (ends (ps[k - 1]'(by omega))) (ends ps[k])) : PrTo ids ps (k + 1) := by
  intro i hi hik
  by_cases e : i = k
  · subst e; exact ⟨h1, h2⟩
  · exact h i hi (by omega)
theorem pairwise_of_next {l : List (Int × Int)} (h : ∀ i (hi : i + 1 < l.length), Lt2 (l[i]'(by omega)) l[i + 1]) : l.Pairwise Lt2 := by
  induction l with
  | nil => exact List.Pairwise.nil
  | cons a r ih =>
    have ih' := ih (fun i hi => by have := h (i + 1) (by simpa using hi); simpa using this)
    refine List.pairwise_cons.2 ⟨fun b hb => ?_, ih'⟩
    cases r with
    | nil => cases hb
    | cons c r =>
      have h0 : Lt2 a c := by have := h 0 (by simp); simpa using this
      rcases List.mem_cons.1 hb with rfl | hb
      · exact h0
      · exact h0.trans ((List.pairwise_cons.1 ih').1 b hb)
theorem next_of_pairwise {l : List (Int × Int)} (h : l.Pairwise Lt2) (i j : Nat) (hij : i < j) (hj : j < l.length) : Lt2 (l[i]'(by omega)) l[j] := List.pairwise_iff_getElem.1 h i j (by omega) hj hij
theorem PrTo.iff (ids : List Int) (ps : List LPr) : PrTo ids ps ps.length ↔ (∀ p ∈ ps, PrOK ids p) ∧ PSort ps := by
  constructor
  · intro h
    refine ⟨fun p hp => ?_, pairwise_of_next fun i hi => ?_⟩
    · obtain ⟨i, hi, rfl⟩ := List.getElem_of_mem hp
      exact (h i hi hi).1
    · have hi' : i + 1 < ps.length := by simpa using hi
      have := (h (i + 1) hi' hi').2 (by omega)
      simpa using this
  · rintro ⟨h1, h2⟩ i hi hk
    refine ⟨h1 _ (List.getElem_mem hi), fun h0 => ?_⟩
    have := next_of_pairwise h2 (i - 1) i (by omega) (by simpa using hi)
    simpa using this
theorem TabR.iff (rs : List LSt) (ps : List LPr) : TabR rs ps ↔ (1 ≤ rs.length ∧ rs.length ≤ 12 ∧ ps.length ≤ 40) ∧ StTo rs rs.length ∧ PrTo (idsL rs) ps ps.length := by
  rw [StTo.iff, PrTo.iff]
  unfold TabR
  constructor
  · rintro ⟨a, b, c, d, e⟩; exact ⟨a, ⟨b, c⟩, d, e⟩
  · rintro ⟨a, ⟨b, c⟩, d, e⟩; exact ⟨a, b, c, d, e⟩

/-- Numbers that an int64 can be. -/
def wfI (a : Int) : Prop := (Lit.int .i64 a).wf = true
def WfP (p : LPr) : Prop := (wfI p.1 ∧ wfI p.2.1) ∧ wfI p.2.2
theorem wf_small {a : Int} (h : 0 ≤ a ∧ a ≤ 1000) : wfI a := by
  unfold wfI
  have e1 : IntKind.i64.min = -9223372036854775808 := by rfl
  have e2 : IntKind.i64.max = 9223372036854775807 := by rfl
  simp [Lit.wf, e1, e2]
  omega

end Go.Proofs.Ytdmfljejlhlbnaa
