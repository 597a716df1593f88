/-
  PLANS: lists of places, and their Ids as both sides gather them.
  A TOP AND IDS, DRAWN: l05Top, l05Ids.
  DERIVED: THE SHELF's CONTRACTS AT THIS DUMP, IN PLAIN WORDS (tools/lay-plain.mjs out of 'YtdmfljejlhlbnaaShelf.lean', which tools/lay-shelf.mjs wrote): THE SAME DECLARATIONS UNDER THE SAME NAMES: 'import', 'namespace', 'open', 'def', 'theorem' AND NOTHING ELSE: no command of the shelf's: FOR A HAND-IN. Each laying: the table of numbers ('.._ren') and one theorem, a field a fact of the dump's own or the kernel's comparison; each contract: ONE APPLICATION.
  TWO STATIONS OF A PAIR HELD AGAINST OTHER TWO; a list of such is sorted.
  TWO STATIONS AS A MAP's KEY; the map of kinds.
-/
import Derived.Test.YtdmfljejlhlbnaaHaa
import Derived.Test.YtdmfljejlhlbnaaHab
import Derived.Ground.SlsfProg
import Derived.Shelf.SlSortCmp.WholeK
import Derived.Shelf.SlSortCmp.NoneTotal
import Derived.Test.YtdmfljejlhlbnaaProg
import Derived.Deep.RegionHeldLaw
import Derived.DeepKeys4
import Derived.MapViews
import Derived.Maps.Own
import Derived.Maps.OwnOps
import Derived.Maps.OwnSet
import Derived.Maps.RangeWalk
namespace Go.Proofs.Ytdmfljejlhlbnaa
open Go.RowKit
set_option linter.unusedVariables false

/-- A place: an Id and a Channel. -/
abbrev LPl := Int × Int
/-- Places lie from cell o of block c on. -/
structure PlAt (w : World) (c o : Nat) (pl : List LPl) : Prop where
  lt : c < w.heap.size
  cell : ∀ i (h : i < pl.length), w.cell? ⟨c, o + i * 2, none⟩ = some (.int .i64 pl[i].1) ∧ w.cell? ⟨c, o + i * 2 + 1, none⟩ = some (.int .i64 pl[i].2)
/-- A slice of the places pl. -/
def Pls (w : World) (sl : Option Addr) (pl : List LPl) : Prop := pl = [] ∨ ∃ c o, sl = some ⟨c, o, none⟩ ∧ PlAt w c o pl
theorem PlAt.below {w w' : World} {c o : Nat} {pl : List LPl} (h : PlAt w c o pl) (hb : Below w.heap.size w w') : PlAt w' c o pl :=
  ⟨Nat.lt_of_lt_of_le h.lt hb.size, fun i hi => ⟨(hb.cell h.lt).trans (h.cell i hi).1, (hb.cell h.lt).trans (h.cell i hi).2⟩⟩
theorem Pls.below {w w' : World} {sl : Option Addr} {pl : List LPl} (h : Pls w sl pl) (hb : Below w.heap.size w w') : Pls w' sl pl := by
  rcases h with h | ⟨c, o, e, h⟩
  · exact .inl h
  · exact .inr ⟨c, o, e, h.below hb⟩
def pidsL (pl : List LPl) : List Int := pl.map fun p => p.1
theorem pidsL_len (pl : List LPl) : (pidsL pl).length = pl.length := by simp [pidsL]
theorem pidsL_step (pl : List LPl) (k : Nat) (h : k < pl.length) : valsZ ((pidsL pl).take k) ++ [.int .i64 pl[k].1] = valsZ ((pidsL pl).take (k + 1)) := by
  rw [List.take_add_one, show (pidsL pl)[k]? = some pl[k].1 by simp [pidsL, h]]
  simp [valsZ]
/-- The Ids as they stand; none, if they are too many. -/
def pidsA (pl : List LPl) : List Int := if pl.length ≤ 400 then pidsL pl else []
/-- An empty row just made. -/
theorem own_none5 (w : World) : (w.alloc (.cells #[] 2)).ownsRow w.heap.size 2 1 (.slice (some ⟨w.heap.size, 0, none⟩) 0 0) 0 [] :=
  ⟨rfl, .inr ⟨w.heap.size, 0, #[], rfl, Nat.le_refl _, by show (w.heap.push _)[w.heap.size]? = _; simp, Nat.le_refl _, Nat.zero_le _, rfl, rfl⟩⟩

set_option maxHeartbeats 1000000 in
/-- impl.PlanIds. -/
theorem ipi_any (sl : Option Addr) (cap : Nat) (pl : List LPl) (w : World) (hn : pl.length ≤ maxLen) (hz : Pls w sl pl) :
    Calls Try.prog 72 #[.slice sl pl.length cap] w fun e w' => ∃ v, e = .returned v ∧ w'.ownsRow w.heap.size 2 1 v (pidsA pl).length (valsZ (pidsA pl)) ∧ Below w.heap.size w w' := by
  unfold maxLen at hn
  by_cases h4 : pl.length ≤ 400
  · rw [show pidsA pl = pidsL pl from if_pos h4]
    obtain ⟨i0, hi0, hz0, hz1, hz2⟩ := info_parts info2'
    have h4' : ¬ (400 : Int) < (pl.length : Int) := by omega
    have HZ := Lib.hid hz
    clear hz
    rw [pidsL_len]
    generalize hN : pl.length = n at *
    have HN := Lib.hid hN
    clear hN
    go_enter Try.func72, Try.ntmps72
    go_wp2
    go_loopw [3, 11] (fun v i wr => ∃ k : Nat, i = .int .i64 k ∧ k ≤ n ∧ Hid (wr.ownsRow w.heap.size 2 1 v k (valsZ ((pidsL pl).take k))) ∧ Hid (Below w.heap.size w wr)) (fun _ i _ => n - (intOf i).toNat)
    case atStart => exact ⟨0, rfl, Nat.zero_le _, ⟨rfl, .inl ⟨rfl, rfl⟩⟩, Below.refl _ _⟩
    case round =>
      obtain ⟨k, rfl, hk, H1, H2⟩ := hrel
      have hk0 : (0 : Int) ≤ (k : Int) := by omega
      by_cases h1 : k < n
      · have h1' : (k : Int) < (n : Int) := by omega
        have hlt : k < pl.length := by rw [HN.out]; exact h1
        obtain ⟨c, o, rfl, Z0⟩ : ∃ c o, sl = some ⟨c, o, none⟩ ∧ PlAt w c o pl := by
          rcases HZ.out with e | h
          · rw [e] at hlt; simp at hlt
          · exact h
        obtain ⟨hc, hc1⟩ := (Z0.below H2.out).cell k hlt
        have EV := Lib.hid (pidsL_step pl k hlt)
        generalize pl[k].1 = z at *
        generalize pl[k].2 = y at *
        clear hlt Z0
        have hown := Lib.hid (H1.out.alloc (.cells #[.int .i64 z, .int .i64 y] 34))
        have hs := H2.out.size
        go_wp2_with (first | (at_builtin; refine wpList_append_lies _ rfl (.tmp 15) (.tmp 18) 40 rfl w.heap.size 2 i0 (.int .i64 0) 1 8 Try.underlying40 hi0 hz0 hz1 hz2 rfl (by decide) _ _ _ rfl (hown.out.alloc _) ⟨wr.heap.size + 1, 0, none⟩ 1 1 [.int .i64 z] (by simp [Act.eval]) rfl (cell_one_new' _ _ _ _) (by intro u hu; simp at hu; subst hu; rfl) (by decide) (by unfold maxLen; omega) (by omega) (by simp; omega) (wr.heap.size + 2) (by simp) ?_))
        intro g9 cap9 w9 own9 grow9 hg9 hlt9
        have B9 := Lib.hid ((bA (bA H2.out (.cells #[.int .i64 z, .int .i64 y] 34)) (.cells #[.int .i64 z] 2)).grown grow9 (by simp; omega) (fun j hj => (hown.out.lt j hj).1))
        rw [EV.out] at own9
        have N9 := Lib.hid own9
        clear own9 grow9 hg9 hlt9 hown
        go_wp2
        go_roundw
        case rel => exact ⟨k + 1, by go_num, by omega, N9, B9⟩
        case measure => simp [intOf]; omega
      · have h1' : ¬ (k : Int) < (n : Int) := by omega
        have e : k = n := by omega
        have F := Lib.hid (show (pidsL pl).take k = pidsL pl from List.take_of_length_le (by rw [pidsL_len, HN.out]; omega))
        have H9 := H1.out
        rw [F.out, e] at H9
        have P := Lib.hid (And.intro H9 H2.out)
        clear H9 H1
        go_wp2
        go_ret
        exact ⟨_, rfl, P.out.1, P.out.2⟩
  · rw [show pidsA pl = [] from if_neg h4]
    have h4' : (400 : Int) < (pl.length : Int) := by omega
    clear hz
    generalize pl.length = n at *
    go_enter Try.func72, Try.ntmps72
    go_wp2
    go_ret
    exact ⟨_, rfl, ⟨rfl, .inl ⟨rfl, rfl⟩⟩, Below.refl _ _⟩

set_option maxHeartbeats 1000000 in
/-- spec.PlanIds. -/
theorem spi_any (sl : Option Addr) (cap : Nat) (pl : List LPl) (w : World) (hn : pl.length ≤ maxLen) (hz : Pls w sl pl) :
    Calls Try.prog 24 #[.slice sl pl.length cap] w fun e w' => ∃ v, e = .returned v ∧ w'.ownsRow w.heap.size 2 1 v (pidsA pl).length (valsZ (pidsA pl)) ∧ Below w.heap.size w w' := by
  unfold maxLen at hn
  have O0 := Lib.hid (own_none5 w)
  have B0 := Lib.hid (bA0 w (.cells #[] 2))
  by_cases h4 : pl.length ≤ 400
  · rw [show pidsA pl = pidsL pl from if_pos h4]
    obtain ⟨i0, hi0, hz0, hz1, hz2⟩ := info_parts info2'
    have h4' : ¬ (400 : Int) < (pl.length : Int) := by omega
    have HZ := Lib.hid hz
    clear hz
    rw [pidsL_len]
    generalize hN : pl.length = n at *
    have HN := Lib.hid hN
    clear hN
    go_enter Try.func24, Try.ntmps24
    go_wp2
    generalize w.alloc (.cells #[] 2) = w0 at *
    go_loopw [3, 4] (fun v i wr => ∃ k : Nat, i = .int .i64 k ∧ k ≤ n ∧ Hid (wr.ownsRow w.heap.size 2 1 v k (valsZ ((pidsL pl).take k))) ∧ Hid (Below w.heap.size w wr)) (fun _ i _ => n - (intOf i).toNat)
    case atStart => exact ⟨0, rfl, Nat.zero_le _, O0, B0⟩
    case round =>
      obtain ⟨k, rfl, hk, H1, H2⟩ := hrel
      have hk0 : (0 : Int) ≤ (k : Int) := by omega
      by_cases h1 : k < n
      · have h1' : (k : Int) < (n : Int) := by omega
        have hlt : k < pl.length := by rw [HN.out]; exact h1
        obtain ⟨c, o, rfl, Z0⟩ : ∃ c o, sl = some ⟨c, o, none⟩ ∧ PlAt w c o pl := by
          rcases HZ.out with e | h
          · rw [e] at hlt; simp at hlt
          · exact h
        obtain ⟨hc, hc1⟩ := (Z0.below H2.out).cell k hlt
        have EV := Lib.hid (pidsL_step pl k hlt)
        generalize pl[k].1 = z at *
        generalize pl[k].2 = y at *
        clear hlt Z0
        have hs := H2.out.size
        go_wp2_with (first | (at_builtin; refine wpList_append_lies _ rfl (.tmp 16) (.tmp 22) 40 rfl w.heap.size 2 i0 (.int .i64 0) 1 8 Try.underlying40 hi0 hz0 hz1 hz2 rfl (by decide) _ _ _ rfl (H1.out.alloc _) ⟨wr.heap.size, 0, none⟩ 1 1 [.int .i64 z] rfl rfl (cell_one_new _ _ _) (by intro u hu; simp at hu; subst hu; rfl) (by decide) (by unfold maxLen; omega) (by omega) (by simp; omega) (wr.heap.size + 1) (by simp) ?_))
        intro g9 cap9 w9 own9 grow9 hg9 hlt9
        have B9 := Lib.hid ((bA H2.out (.cells #[.int .i64 z] 2)).grown grow9 (by simp; omega) (fun j hj => (H1.out.lt j hj).1))
        rw [EV.out] at own9
        have N9 := Lib.hid own9
        clear own9 grow9 hg9 hlt9
        go_wp2
        go_roundw
        case rel => exact ⟨k + 1, by go_num, by omega, N9, B9⟩
        case measure => simp [intOf]; omega
      · have h1' : ¬ (k : Int) < (n : Int) := by omega
        have e : k = n := by omega
        have F := Lib.hid (show (pidsL pl).take k = pidsL pl from List.take_of_length_le (by rw [pidsL_len, HN.out]; omega))
        have H9 := H1.out
        rw [F.out, e] at H9
        have P := Lib.hid (And.intro H9 H2.out)
        clear H9 H1
        go_wp2
        go_ret
        exact ⟨_, rfl, P.out.1, P.out.2⟩
  · rw [show pidsA pl = [] from if_neg h4]
    have h4' : (400 : Int) < (pl.length : Int) := by omega
    clear hz
    generalize pl.length = n at *
    go_enter Try.func24, Try.ntmps24
    go_wp2
    go_ret
    exact ⟨_, rfl, O0.out, B0.out⟩

end Go.Proofs.Ytdmfljejlhlbnaa
namespace Go.Proofs.Ytdmfljejlhlbnaa
open Go.RowKit
set_option linter.unusedVariables false

set_option maxHeartbeats 1000000 in
/-- spec.l05Top. -/
theorem top_any (B b : Nat) (w : World) (hs : SrcB B w b) :
    Calls Try.prog 65 #[.pointer (some ⟨b, 0, none⟩)] w fun e w' => ∃ v : Int, e = .returned (.int .i64 v) ∧ SrcB B w' b ∧ Only b w w' := by
  have HS := Lib.hid hs
  clear hs
  go_enter Try.func65, Try.ntmps65
  go_wp2_with fail
  refine (oneB_any B b 12 _ (by decide) HS.out).mono ?_
  rintro e w1 ⟨t, rfl, s1, o1⟩
  have H1 : Hid (SrcB B w1 b ∧ Only b w w1) := ⟨s1, o1⟩
  clear s1 o1 HS
  cases t with
  | true =>
    go_wp2_with fail
    refine (edgeB_any B b _ H1.out.1).mono ?_
    rintro e w2 ⟨v, rfl, -, s2, o2⟩
    have H2 : Hid (SrcB B w2 b ∧ Only b w w2) := ⟨s2, H1.out.2.trans o2⟩
    clear s2 o2 H1
    go_wp2
    go_ret
    exact ⟨_, rfl, H2.out⟩
  | false =>
    go_wp2_with fail
    refine (nB_lt B b 6 _ (by decide) (by decide) H1.out.1).mono ?_
    rintro e w2 ⟨r, rfl, r1, r2, s2, o2⟩
    have H2 : Hid (SrcB B w2 b ∧ Only b w w2) := ⟨s2, H1.out.2.trans o2⟩
    clear s2 o2 H1
    go_wp2
    go_ret
    exact ⟨_, rfl, H2.out⟩

set_option maxRecDepth 100000 in
set_option maxHeartbeats 4000000 in
/-- spec.l05Ids. -/
theorem lids_any (B b : Nat) (sl : Option Addr) (cap : Nat) (sl2 : Option Addr) (m cap2 : Nat) (rs : List LSt) (w : World) (hn : rs.length ≤ 14) (hs : SrcB B w b) (ht : ∀ W, Only b w W → Sts W sl rs) :
    Calls Try.prog 95 #[.pointer (some ⟨b, 0, none⟩), TV sl rs.length cap sl2 m cap2] w fun e w' => ∃ v zs, e = .returned v ∧ List.length zs ≤ 15 ∧ w'.ownsRow w.heap.size 2 1 v zs.length (valsZ zs) ∧ SrcB B w' b ∧ Only b w w' := by
  obtain ⟨i0, hi0, hz0, hz1, hz2⟩ := info_parts info2'
  have hb : b < w.heap.size := Nat.lt_of_lt_of_le hs.1 hs.2.1
  have hBw : B ≤ w.heap.size := hs.2.1
  have HT0 := Lib.hid (TabAt.new w sl rs.length cap sl2 m cap2)
  have hM : (w.alloc (.cells #[.slice sl rs.length cap, .slice sl2 m cap2] 26)).heap.size = w.heap.size + 1 := by simp
  have BA := Lib.hid (bA0 w (.cells #[.slice sl rs.length cap, .slice sl2 m cap2] 26))
  have BB := Lib.hid (bA0 (w.alloc (.cells #[.slice sl rs.length cap, .slice sl2 m cap2] 26)) (.cells #[] 2))
  have O0 := Lib.hid (own_none5 (w.alloc (.cells #[.slice sl rs.length cap, .slice sl2 m cap2] 26)))
  rw [hM] at O0
  have KT : Hid (∀ W, Only b (w.alloc (.cells #[.slice sl rs.length cap, .slice sl2 m cap2] 26)) W → w.heap.size < W.heap.size ∧ W.cell? ⟨w.heap.size, 0, none⟩ = some (.slice sl rs.length cap) ∧ W.cell? ⟨w.heap.size, 1, none⟩ = some (.slice sl2 m cap2)) := fun W hW => by
    have : TabAt W w.heap.size sl rs.length cap sl2 m cap2 := (hW.block w.heap.size HT0.out.lt (by omega)).trans HT0.out
    exact ⟨this.lt, this.cells⟩
  have OX : Hid (∀ W, Only b (w.alloc (.cells #[.slice sl rs.length cap, .slice sl2 m cap2] 26)) W → Only b w W) := fun W hW => (Only.of_below BA.out).trans hW
  have TX : Hid (∀ W, Only b (w.alloc (.cells #[.slice sl rs.length cap, .slice sl2 m cap2] 26)) W → Sts W sl rs) := fun W hW => ht W (OX.out W hW)
  have S0 : Hid (SrcB B ((w.alloc (.cells #[.slice sl rs.length cap, .slice sl2 m cap2] 26)).alloc (.cells #[] 2)) b) := (hs.below BA.out).below BB.out
  have N0 : Hid (Only b (w.alloc (.cells #[.slice sl rs.length cap, .slice sl2 m cap2] 26)) ((w.alloc (.cells #[.slice sl rs.length cap, .slice sl2 m cap2] 26)).alloc (.cells #[] 2))) := Only.of_below BB.out
  have SZ : Hid (∀ W, Only b (w.alloc (.cells #[.slice sl rs.length cap, .slice sl2 m cap2] 26)) W → w.heap.size + 1 ≤ W.heap.size) := fun W hW => by have := hW.size; rw [hM] at this; exact this
  have GR : Hid (∀ W W' row, Only b (w.alloc (.cells #[.slice sl rs.length cap, .slice sl2 m cap2] 26)) W → W.grownBy W' row → (∀ j, row = some j → w.heap.size + 1 ≤ j) → Only b (w.alloc (.cells #[.slice sl rs.length cap, .slice sl2 m cap2] 26)) W') := fun W W' row h1 h2 h3 => h1.grown h2 (fun g hg => by rw [hM]; exact h3 g hg)
  clear hs ht HT0 BA BB hM
  generalize hN : rs.length = n at *
  have HN := Lib.hid hN
  clear hN
  go_enter Try.func95, Try.ntmps95
  go_wp2
  generalize (w.alloc (.cells #[.slice sl n cap, .slice sl2 m cap2] 26)).alloc (.cells #[] 2) = w2 at *
  generalize w.alloc (.cells #[.slice sl n cap, .slice sl2 m cap2] 26) = wA at *
  go_loopw [5, 6] (fun v i wr => ∃ (k : Nat) (zs : List Int), i = .int .i64 k ∧ k ≤ n ∧ zs.length ≤ k ∧ Hid (wr.ownsRow (w.heap.size + 1) 2 1 v zs.length (valsZ zs)) ∧ Hid (SrcB B wr b) ∧ Hid (Only b wA wr)) (fun _ i _ => n - (intOf i).toNat)
  case atStart => exact ⟨0, [], rfl, Nat.zero_le _, Nat.le_refl _, O0, S0, N0⟩
  case round =>
    obtain ⟨k, zs, rfl, hk, hzk, OW, SW, NW⟩ := hrel
    clear O0 S0 N0
    have hk0 : (0 : Int) ≤ (k : Int) := by omega
    obtain ⟨q0, q1, q2⟩ := KT.out _ NW.out
    by_cases h1 : k < n
    · have h1' : (k : Int) < (n : Int) := by omega
      go_wp2_with fail
      refine (oneB_any B b 4 wr (by decide) SW.out).mono ?_
      rintro e wq ⟨t, rfl, sq, oq⟩
      have SQ := Lib.hid sq
      have NQ := Lib.hid (NW.out.trans oq)
      have OQ := Lib.hid (own_only OW.out oq (by omega))
      clear sq oq OW SW NW q0 q1 q2
      cases t with
      | true =>
        go_wp2
        go_roundw
        case rel => exact ⟨k + 1, zs, by go_num, by omega, by omega, OQ, SQ, NQ⟩
        case measure => simp [intOf]; omega
      | false =>
        obtain ⟨q0, q1, q2⟩ := KT.out _ NQ.out
        have hlt : k < rs.length := by rw [HN.out]; exact h1
        obtain ⟨c, o, rfl, ST⟩ : ∃ c o, sl = some ⟨c, o, none⟩ ∧ StAt wq c o rs := by
          rcases (TX.out _ NQ.out).1 with e | h
          · rw [e] at hlt; simp at hlt
          · exact h
        obtain ⟨c0, -, -⟩ := ST.cell k hlt
        have cl := ST.lt
        generalize rs[k].1 = z at *
        have hs9 := SZ.out _ NQ.out
        clear ST hlt
        go_wp2_with (first | (at_builtin; refine wpList_append_lies _ rfl (.tmp 18) (.tmp 25) 40 rfl (w.heap.size + 1) 2 i0 (.int .i64 0) 1 8 Try.underlying40 hi0 hz0 hz1 hz2 rfl (by decide) _ _ _ rfl (OQ.out.alloc _) ⟨wq.heap.size, 0, none⟩ 1 1 [.int .i64 z] rfl rfl (cell_one_new _ _ _) (by intro u hu; simp at hu; subst hu; rfl) (by decide) (by unfold maxLen; omega) (by omega) (by simp; omega) (wq.heap.size + 1) (by simp) ?_))
        intro g9 cap9 w9 own9 grow9 hg9 hlt9
        have N9 := Lib.hid (GR.out _ _ _ (NQ.out.trans (Only.of_below (bA0 wq (.cells #[.int .i64 z] 2)))) grow9 (fun j hj => (OQ.out.lt j hj).1))
        have S9 := Lib.hid ((SQ.out.below (bA0 wq (.cells #[.int .i64 z] 2))).grown grow9 (fun j hj => by have := (OQ.out.lt j hj).1; omega))
        have O9 : Hid (w9.ownsRow (w.heap.size + 1) 2 1 (.slice (some ⟨g9, 0, none⟩) (zs.length + 1) cap9) (zs ++ [z]).length (valsZ (zs ++ [z]))) := by
          show World.ownsRow _ _ _ _ _ _ _
          have := own9
          rw [show valsZ (zs ++ [z]) = valsZ zs ++ [.int .i64 z] by simp [valsZ], List.length_append]
          exact this
        clear own9 grow9 hg9 hlt9
        go_wp2
        go_roundw
        case rel => exact ⟨k + 1, zs ++ [z], by go_num, by omega, by simp; omega, O9, S9, N9⟩
        case measure => simp [intOf]; omega
    · have h1' : ¬ (k : Int) < (n : Int) := by omega
      go_wp2_with fail
      refine (oneB_any B b 25 wr (by decide) SW.out).mono ?_
      rintro e wq ⟨t, rfl, sq, oq⟩
      have SQ := Lib.hid sq
      have NQ := Lib.hid (NW.out.trans oq)
      have OQ := Lib.hid (own_only OW.out oq (by omega))
      clear sq oq OW SW NW q0 q1 q2
      cases t with
      | true =>
        go_wp2_with fail
        refine (nB_lt B b 30 wq (by decide) (by decide) SQ.out).mono ?_
        rintro e wp ⟨z, rfl, z0, z1, sp, op⟩
        have SP := Lib.hid sp
        have NP := Lib.hid (NQ.out.trans op)
        have OP := Lib.hid (own_only OQ.out op (by omega))
        have hs9 := SZ.out _ NP.out
        clear sp op OQ SQ NQ
        go_wp2_with (first | (at_builtin; refine wpList_append_lies _ rfl (.tmp 29) (.tmp 32) 40 rfl (w.heap.size + 1) 2 i0 (.int .i64 0) 1 8 Try.underlying40 hi0 hz0 hz1 hz2 rfl (by decide) _ _ _ rfl (OP.out.alloc _) ⟨wp.heap.size, 0, none⟩ 1 1 [.int .i64 z] rfl rfl (cell_one_new _ _ _) (by intro u hu; simp at hu; subst hu; rfl) (by decide) (by unfold maxLen; omega) (by omega) (by simp; omega) (wp.heap.size + 1) (by simp) ?_))
        intro g9 cap9 w9 own9 grow9 hg9 hlt9
        have N9 := Lib.hid (GR.out _ _ _ (NP.out.trans (Only.of_below (bA0 wp (.cells #[.int .i64 z] 2)))) grow9 (fun j hj => (OP.out.lt j hj).1))
        have S9 := Lib.hid ((SP.out.below (bA0 wp (.cells #[.int .i64 z] 2))).grown grow9 (fun j hj => by have := (OP.out.lt j hj).1; omega))
        have O9 : Hid (w9.ownsRow w.heap.size 2 1 (.slice (some ⟨g9, 0, none⟩) (zs.length + 1) cap9) (zs ++ [z]).length (valsZ (zs ++ [z]))) := by
          show World.ownsRow _ _ _ _ _ _ _
          have := own_mono own9 (show w.heap.size ≤ w.heap.size + 1 by omega)
          rw [show valsZ (zs ++ [z]) = valsZ zs ++ [.int .i64 z] by simp [valsZ], List.length_append]
          exact this
        have F9 := Lib.hid (OX.out _ N9.out)
        clear own9 grow9 hg9 hlt9
        go_wp2
        go_ret
        exact ⟨_, zs ++ [z], rfl, by simp; omega, O9.out, S9.out, F9.out⟩
      | false =>
        have O9 := Lib.hid (own_mono OQ.out (show w.heap.size ≤ w.heap.size + 1 by omega))
        have F9 := Lib.hid (OX.out _ NQ.out)
        clear OQ
        go_wp2
        go_ret
        exact ⟨_, zs, rfl, by omega, O9.out, SQ.out, F9.out⟩

end Go.Proofs.Ytdmfljejlhlbnaa
namespace Go.Proofs
open Go.Shelf
def Try.laysSlF06_f49_ren : Go.Shelf.Ren := ⟨fun | 6 => 154 | 15 => 157 | 14 => 156 | 28 => 168 | 29 => 169 | 20 => 160 | 21 => 161 | 22 => 162 | 23 => 163 | 24 => 164 | 25 => 165 | 26 => 166 | 27 => 167 | 46 => 170 | 47 => 171 | 48 => 172 | 49 => 173 | 50 => 174 | 57 => 175 | n => n, fun | 22 => 179 | 24 => 152 | 25 => 183 | 3 => 3 | 39 => 147 | 0 => 0 | 53 => 196 | 55 => 143 | 4 => 4 | 46 => 190 | 45 => 189 | 50 => 98 | 5 => 5 | 9 => 9 | 66 => 198 | 70 => 202 | 76 => 204 | 77 => 205 | n => n, fun | n => n⟩
theorem Try.laysSlF06_f49 : Go.Proofs.SlLaysF0.n6 Try.prog Try.laysSlF06_f49_ren := {
  mixed := by kernel_rfl
  f6 := ⟨Try.f154.name, by decide, Try.func154.trans (congrArg some (by kernel_rfl))⟩
  f14 := ⟨Try.f156.name, by decide, Try.func156.trans (congrArg some (by kernel_rfl))⟩
  f15 := Try.func157.trans (congrArg some (by kernel_rfl))
  f20 := ⟨Try.f160.name, by decide, Try.func160.trans (congrArg some (by kernel_rfl))⟩
  f21 := ⟨Try.f161.name, by decide, Try.func161.trans (congrArg some (by kernel_rfl))⟩
  f22 := ⟨Try.f162.name, by decide, Try.func162.trans (congrArg some (by kernel_rfl))⟩
  f23 := ⟨Try.f163.name, by decide, Try.func163.trans (congrArg some (by kernel_rfl))⟩
  f24 := ⟨Try.f164.name, by decide, Try.func164.trans (congrArg some (by kernel_rfl))⟩
  f25 := ⟨Try.f165.name, by decide, Try.func165.trans (congrArg some (by kernel_rfl))⟩
  f26 := ⟨Try.f166.name, by decide, Try.func166.trans (congrArg some (by kernel_rfl))⟩
  f27 := ⟨Try.f167.name, by decide, Try.func167.trans (congrArg some (by kernel_rfl))⟩
  f28 := Try.func168.trans (congrArg some (by kernel_rfl))
  f29 := Try.func169.trans (congrArg some (by kernel_rfl))
  f46 := ⟨Try.f170.name, by decide, Try.func170.trans (congrArg some (by kernel_rfl))⟩
  f47 := Try.func171.trans (congrArg some (by kernel_rfl))
  f48 := Try.func172.trans (congrArg some (by kernel_rfl))
  f49 := ⟨Try.f173.name, by decide, Try.func173.trans (congrArg some (by kernel_rfl))⟩
  f50 := ⟨Try.f174.name, by decide, Try.func174.trans (congrArg some (by kernel_rfl))⟩
  f57 := ⟨Try.f175.name, by decide, Try.func175.trans (congrArg some (by kernel_rfl))⟩
  t0 := Try.underlying0
  a0 := Try.isAgg0
  z0 := Try.sizeOf0
  v0 := Try.zeroValue0
  t3 := Try.underlying3
  a3 := Try.isAgg3
  z3 := Try.sizeOf3
  v3 := Try.zeroValue3
  t4 := Try.underlying4
  a4 := Try.isAgg4
  z4 := Try.sizeOf4
  v4 := Try.zeroValue4
  t5 := Try.underlying5
  a5 := Try.isAgg5
  z5 := Try.sizeOf5
  v5 := Try.zeroValue5
  t9 := Try.underlying9
  a9 := Try.isAgg9
  z9 := Try.sizeOf9
  v9 := Try.zeroValue9
  t22 := Try.underlying179
  a22 := Try.isAgg179
  z22 := Try.sizeOf179
  v22 := Try.zeroValue179
  t25 := Try.underlying183
  a25 := Try.isAgg183
  z25 := Try.sizeOf183
  v25 := Try.zeroValue183
  t39 := Try.underlying147
  a39 := Try.isAgg147
  z39 := Try.sizeOf147
  v39 := Try.zeroValue147
  t45 := Try.underlying189
  a45 := Try.isAgg189
  z45 := Try.sizeOf189
  v45 := Try.zeroValue189
  t46 := Try.underlying190
  a46 := Try.isAgg190
  z46 := Try.sizeOf190
  v46 := Try.zeroValue190
  t50 := Try.underlying98
  a50 := Try.isAgg98
  z50 := Try.sizeOf98
  v50 := Try.zeroValue98
  t53 := Try.underlying196
  a53 := Try.isAgg196
  z53 := Try.sizeOf196
  v53 := Try.zeroValue196
  t55 := Try.underlying143
  a55 := Try.isAgg143
  z55 := Try.sizeOf143
  v55 := Try.zeroValue143
  t66 := Try.underlying198
  a66 := Try.isAgg198
  z66 := Try.sizeOf198
  v66 := Try.zeroValue198
  t70 := Try.underlying202
  a70 := Try.isAgg202
  z70 := Try.sizeOf202
  v70 := Try.zeroValue202
  t76 := Try.underlying204
  a76 := Try.isAgg204
  z76 := Try.sizeOf204
  v76 := Try.zeroValue204
  t77 := Try.underlying205
  a77 := Try.isAgg205
  z77 := Try.sizeOf205
  v77 := Try.zeroValue205 }
open Go.RowKit Go.Lib Go.Sort in
/-- **slices.SortFunc, IN THE DOCUMENTATION's OWN TERMS: A PERMUTATION OF WHAT THE ROW HELD, SORTED BY 'cmp(a, b) < 0'.** Which of two equals comes first is left open ("The sort is not guaranteed to be stable"). (LAID AT THE INSTANCE 'slices.SortFunc[[]impl.ends,impl.ends]': no walk: one application.) -/
theorem Try.slices_SortFunc {α : Type} [Inhabited α] (k : Nat) (aE : ∀ w, (isAgg 152).run Try.prog w = .ok true w) (zE : ∀ w, (Go.sizeOf 152).run Try.prog w = .ok k w) (enc : α → List Value) (hk : ∀ x, (enc x).length = k) (h1 : ∀ x, ∀ v ∈ enc x, v.oneCell' = true) (cf : α → α → Int) (hO : SWO (ltOf cf)) (g : Nat) (cb : Array Value) (blk off cap : Nat) (d : Array α) (w : World) (eg : ∀ args w, (callFunc g args).run Try.prog w = .ok (.enter g args) w) (hcmp : CmpLays Try.prog g cb enc k cf blk off d.size w) (hH : HoldsK enc k w blk off d) (hblk : blk < w.heap.size) (hsz : d.size < 4611686018427387904) :
    Calls Try.prog 154 #[.slice (some ⟨blk, off, none⟩) d.size cap, .func (.func g) #[] cb] w fun e w' =>
      e = .returned (.tuple #[]) ∧ ∃ d' n os, PermIn 0 d.size d d' ∧ SortedIn (ltOf cf) 0 d.size d' ∧ w' = sortWorldK enc k w blk off n d' os := AnyQ.slices_SortFunc Try.laysSlF06_f49 k aE zE enc hk h1 cf hO g cb blk off cap d w eg hcmp hH hblk hsz
end Go.Proofs
namespace Go.Proofs.Ytdmfljejlhlbnaa
open Go.RowKit
set_option linter.unusedVariables false

set_option maxHeartbeats 400000 in
theorem nan_any (x : Int) (w : World) : Calls Try.prog 144 #[.int .i64 x] w fun e w' => e = .returned (.bool false) ∧ w' = w := by
  go_enter Try.func144, Try.ntmps144
  go_wp2
  go_ret
  exact ⟨by simp, rfl⟩
/-- -1, 0 or 1. -/
def cmpI (x y : Int) : Int := if x < y then -1 else if y < x then 1 else 0
set_option maxHeartbeats 400000 in
theorem cmp_any (x y : Int) (w : World) : Calls Try.prog 159 #[.int .i64 x, .int .i64 y] w fun e w' => e = .returned (.int .i64 (cmpI x y)) ∧ w' = w := by
  have N := Lib.hid nan_any
  by_cases h1 : x < y
  · have e : cmpI x y = -1 := by simp [cmpI, h1]
    rw [e]; clear e
    go_enter Try.func159, Try.ntmps159
    go_wp2_with (go_at_call 144; refine (N.out _ _).mono ?_; rintro e w' ⟨rfl, rfl⟩)
    go_ret
    exact ⟨rfl, rfl⟩
  · by_cases h2 : y < x
    · have e : cmpI x y = 1 := by simp [cmpI, h1, h2]
      rw [e]; clear e
      go_enter Try.func159, Try.ntmps159
      go_wp2_with (go_at_call 144; refine (N.out _ _).mono ?_; rintro e w' ⟨rfl, rfl⟩)
      go_ret
      exact ⟨rfl, rfl⟩
    · have e : cmpI x y = 0 := by simp [cmpI, h1, h2]
      rw [e]; clear e
      go_enter Try.func159, Try.ntmps159
      go_wp2_with (go_at_call 144; refine (N.out _ _).mono ?_; rintro e w' ⟨rfl, rfl⟩)
      go_ret
      exact ⟨rfl, rfl⟩
/-- The first that is not nought. -/
def orI (a b : Int) : Int := if a ≠ 0 then a else b
set_option maxHeartbeats 1000000 in
theorem or_any (g : Nat) (a b : Int) (w : World) (h0 : w.cell? ⟨g, 0, none⟩ = some (.int .i64 a)) (h1 : w.cell? ⟨g, 1, none⟩ = some (.int .i64 b)) : Calls Try.prog 158 #[.slice (some ⟨g, 0, none⟩) 2 2] w fun e w' => e = .returned (.int .i64 (orI a b)) ∧ w' = w := by
  by_cases ha : a = 0
  · have ha' : (a != 0) = false := by simp [ha]
    by_cases hb : b = 0
    · have hb' : (b != 0) = false := by simp [hb]
      have e : orI a b = 0 := by simp [orI, ha, hb]
      rw [e]; clear e ha hb
      go_enter Try.func158, Try.ntmps158
      go_wp2
      refine wp_loop_rounds 3 ?_
      rw [rounds_succ]
      go_wp2
      rw [rounds_succ]
      go_wp2
      rw [rounds_succ]
      go_wp2
      go_ret
      exact ⟨rfl, rfl⟩
    · have hb' : (b != 0) = true := by simp [hb]
      have e : orI a b = b := by simp [orI, ha]
      rw [e]; clear e ha hb
      go_enter Try.func158, Try.ntmps158
      go_wp2
      refine wp_loop_rounds 3 ?_
      rw [rounds_succ]
      go_wp2
      rw [rounds_succ]
      go_wp2
      go_ret
      exact ⟨rfl, rfl⟩
  · have ha' : (a != 0) = true := by simp [ha]
    have e : orI a b = a := by simp [orI, ha]
    rw [e]; clear e ha
    go_enter Try.func158, Try.ntmps158
    go_wp2
    refine wp_loop_rounds 3 ?_
    rw [rounds_succ]
    go_wp2
    go_ret
    exact ⟨rfl, rfl⟩
/-- compareEnds. -/
def cmpE (x y : Int × Int) : Int := orI (cmpI x.1 y.1) (cmpI x.2 y.2)
theorem cmpE_lt (x y : Int × Int) : cmpE x y < 0 ↔ Lt2 x y := by
  unfold cmpE orI cmpI Lt2
  by_cases h1 : x.1 < y.1
  · simp [h1]
  · by_cases h2 : y.1 < x.1
    · simp [h1, h2]; omega
    · have e : x.1 = y.1 := by omega
      by_cases h3 : x.2 < y.2
      · simp [e, h3]
      · by_cases h4 : y.2 < x.2 <;> simp [e, h3, h4]
abbrev EV (x : Int × Int) : Value := .agg #[.int .i64 x.1, .int .i64 x.2]

set_option maxHeartbeats 1000000 in
theorem cmpE_any (x y : Int × Int) (w : World) : Calls Try.prog 155 #[EV x, EV y] w fun e w' => e = .returned (.int .i64 (cmpE x y)) ∧ ∃ q os', w' = Go.Sort.grow (w.drewN q) os' := by
  have C := Lib.hid cmp_any
  have O := Lib.hid or_any
  obtain ⟨x1, x2⟩ := x
  obtain ⟨y1, y2⟩ := y
  have E := Lib.hid (show cmpE (x1, x2) (y1, y2) = orI (cmpI x1 y1) (cmpI x2 y2) from rfl)
  rw [E.out]
  clear E
  have EA := Lib.hid (fun W => C.out x1 y1 W)
  have EB := Lib.hid (fun W => C.out x2 y2 W)
  generalize cmpI x1 y1 = a at *
  generalize cmpI x2 y2 = b at *
  clear C
  have hb0 : ((w.alloc (.cells #[.int .i64 x1, .int .i64 x2] 152)).alloc (.cells #[.int .i64 y1, .int .i64 y2] 152)).heap[w.heap.size]? = some (.cells #[.int .i64 x1, .int .i64 x2] 152) := by
    show ((w.heap.push _).push _)[w.heap.size]? = _
    rw [Array.getElem?_push_lt (by simp)]; simp
  have hb1 : ((w.alloc (.cells #[.int .i64 x1, .int .i64 x2] 152)).alloc (.cells #[.int .i64 y1, .int .i64 y2] 152)).heap[w.heap.size + 1]? = some (.cells #[.int .i64 y1, .int .i64 y2] 152) := by
    show ((w.heap.push _).push _)[w.heap.size + 1]? = _
    have := Array.getElem?_push_size (xs := w.heap.push (.cells #[.int .i64 x1, .int .i64 x2] 152)) (x := Obj.cells #[.int .i64 y1, .int .i64 y2] 152)
    simpa using this
  have hsz : ((w.alloc (.cells #[.int .i64 x1, .int .i64 x2] 152)).alloc (.cells #[.int .i64 y1, .int .i64 y2] 152)).heap.size = w.heap.size + 2 := by simp
  have EQ : Hid ((w.alloc (.cells #[.int .i64 x1, .int .i64 x2] 152)).alloc (.cells #[.int .i64 y1, .int .i64 y2] 152) = Go.Sort.grow w #[.cells #[.int .i64 x1, .int .i64 x2] 152, .cells #[.int .i64 y1, .int .i64 y2] 152]) := by
    show _ = _
    rw [Go.Sort.alloc_eq_grow, Go.Sort.alloc_eq_grow, Go.Sort.grow_grow]; rfl
  go_enter Try.func155, Try.ntmps155
  go_wp2_with fail
  generalize (w.alloc (.cells #[.int .i64 x1, .int .i64 x2] 152)).alloc (.cells #[.int .i64 y1, .int .i64 y2] 152) = W0 at *
  have KB : Hid (∀ W, Below W0.heap.size W0 W → w.heap.size < W.heap.size ∧ w.heap.size + 1 < W.heap.size ∧ W.cell? ⟨w.heap.size, 0, none⟩ = some (.int .i64 x1) ∧ W.cell? ⟨w.heap.size, 1, none⟩ = some (.int .i64 x2) ∧ W.cell? ⟨w.heap.size + 1, 0, none⟩ = some (.int .i64 y1) ∧ W.cell? ⟨w.heap.size + 1, 1, none⟩ = some (.int .i64 y2)) := by
    intro W hW
    have hs := hW.size
    have b0 := (hW.block w.heap.size (by omega)).trans hb0
    have b1 := (hW.block (w.heap.size + 1) (by omega)).trans hb1
    refine ⟨by omega, by omega, ?_, ?_, ?_, ?_⟩ <;> simp [World.cell?, b0, b1]
  have N0 : Hid ((W0.drew.alloc (.cells #[.int .i64 a, .int .i64 b] 3)).cell? ⟨W0.heap.size, 0, none⟩ = some (.int .i64 a)) := by
    have hh : (W0.drew.alloc (.cells #[.int .i64 a, .int .i64 b] 3)).heap[W0.heap.size]? = some (.cells #[.int .i64 a, .int .i64 b] 3) := by show (W0.heap.push _)[W0.heap.size]? = _; simp
    show _ = _
    simp only [World.cell?, hh]; rfl
  have N1 : Hid ((W0.drew.alloc (.cells #[.int .i64 a, .int .i64 b] 3)).cell? ⟨W0.heap.size, 1, none⟩ = some (.int .i64 b)) := by
    have hh : (W0.drew.alloc (.cells #[.int .i64 a, .int .i64 b] 3)).heap[W0.heap.size]? = some (.cells #[.int .i64 a, .int .i64 b] 3) := by show (W0.heap.push _)[W0.heap.size]? = _; simp
    show _ = _
    simp only [World.cell?, hh]; rfl
  clear hb0 hb1 hsz
  refine wp_region_held_drew (S := fun W => w.heap.size < W.heap.size ∧ w.heap.size + 1 < W.heap.size ∧ W.cell? ⟨w.heap.size, 0, none⟩ = some (.int .i64 x1) ∧ W.cell? ⟨w.heap.size, 1, none⟩ = some (.int .i64 x2) ∧ W.cell? ⟨w.heap.size + 1, 0, none⟩ = some (.int .i64 y1) ∧ W.cell? ⟨w.heap.size + 1, 1, none⟩ = some (.int .i64 y2)) (by kernel_rfl) ?_ (fun hHeld => ?_)
  · exact KB.out _ (Below.refl _ _).drew
  refine wpAnyH_take (i := 0) (oi := _) (v := ?_) rfl (by kernel_rfl) (by kernel_rfl) (by kernel_rfl) (fun _ _ _ h => h) (Or.inl ⟨by rfl, ?_⟩) (by assumption) ?_
  rotate_left
  · first | (intro w hSw; (try dsimp only at hSw); go_simp; done) | (intro w hSw; (try dsimp only at hSw); go_simp; with_reducible rfl)
  try simp only [Act.put, List.setIfInBounds_toArray, List.set_cons_zero, List.set_cons_succ, List.getElem_toArray, List.getElem_cons_zero]
  refine wpAnyH_take (i := 1) (oi := _) (v := ?_) rfl (by kernel_rfl) (by kernel_rfl) (by kernel_rfl) (fun _ _ _ h => h) (Or.inl ⟨by rfl, ?_⟩) (by assumption) ?_
  rotate_left
  · first | (intro w hSw; (try dsimp only at hSw); go_simp; done) | (intro w hSw; (try dsimp only at hSw); go_simp; with_reducible rfl)
  try simp only [Act.put, List.setIfInBounds_toArray, List.set_cons_zero, List.set_cons_succ, List.getElem_toArray, List.getElem_cons_succ, List.getElem_cons_zero]
  refine wpAnyH_take (i := 2) (oi := _) (v := ?_) rfl (by kernel_rfl) (by kernel_rfl) (by kernel_rfl) (fun _ _ _ h => h) (Or.inl ⟨by rfl, ?_⟩) (by assumption) ?_
  rotate_left
  · first | (intro w hSw; (try dsimp only at hSw); go_simp; done) | (intro w hSw; (try dsimp only at hSw); go_simp; with_reducible rfl)
  try simp only [Act.put, List.setIfInBounds_toArray, List.set_cons_zero, List.set_cons_succ, List.getElem_toArray, List.getElem_cons_succ, List.getElem_cons_zero]
  refine wpAnyH_take (i := 3) (oi := _) (v := ?_) rfl (by kernel_rfl) (by kernel_rfl) (by kernel_rfl) (fun _ _ _ h => h) (Or.inl ⟨by rfl, ?_⟩) (by assumption) ?_
  rotate_left
  · first | (intro w hSw; (try dsimp only at hSw); go_simp; done) | (intro w hSw; (try dsimp only at hSw); go_simp; with_reducible rfl)
  try simp only [Act.put, List.setIfInBounds_toArray, List.set_cons_zero, List.set_cons_succ, List.getElem_toArray, List.getElem_cons_succ, List.getElem_cons_zero]
  refine wpAnyH_take (i := 5) (oi := _) (v := ?_) rfl (by kernel_rfl) (by kernel_rfl) (by kernel_rfl) (fun _ _ _ h => h) (Or.inl ⟨by rfl, ?_⟩) (by assumption) ?_
  rotate_left
  · first | (intro w hSw; (try dsimp only at hSw); go_simp; done) | (intro w hSw; (try dsimp only at hSw); go_simp; with_reducible rfl)
  try simp only [Act.put, List.setIfInBounds_toArray, List.set_cons_zero, List.set_cons_succ, List.getElem_toArray, List.getElem_cons_succ, List.getElem_cons_zero]
  refine wpAnyH_take (i := 6) (oi := _) (v := ?_) rfl (by kernel_rfl) (by kernel_rfl) (by kernel_rfl) (fun _ _ _ h => h) (Or.inl ⟨by rfl, ?_⟩) (by assumption) ?_
  rotate_left
  · first | (intro w hSw; (try dsimp only at hSw); go_simp; done) | (intro w hSw; (try dsimp only at hSw); go_simp; with_reducible rfl)
  try simp only [Act.put, List.setIfInBounds_toArray, List.set_cons_zero, List.set_cons_succ, List.getElem_toArray, List.getElem_cons_succ, List.getElem_cons_zero]
  refine wpAnyH_take (i := 7) (oi := _) (v := ?_) rfl (by kernel_rfl) (by kernel_rfl) (by kernel_rfl) (fun _ _ _ h => h) (Or.inl ⟨by rfl, ?_⟩) (by assumption) ?_
  rotate_left
  · first | (intro w hSw; (try dsimp only at hSw); go_simp; done) | (intro w hSw; (try dsimp only at hSw); go_simp; with_reducible rfl)
  try simp only [Act.put, List.setIfInBounds_toArray, List.set_cons_zero, List.set_cons_succ, List.getElem_toArray, List.getElem_cons_succ, List.getElem_cons_zero]
  refine wpAnyH_take (i := 8) (oi := _) (v := ?_) rfl (by kernel_rfl) (by kernel_rfl) (by kernel_rfl) (fun _ _ _ h => h) (Or.inl ⟨by rfl, ?_⟩) (by assumption) ?_
  rotate_left
  · first | (intro w hSw; (try dsimp only at hSw); go_simp; done) | (intro w hSw; (try dsimp only at hSw); go_simp; with_reducible rfl)
  try simp only [Act.put, List.setIfInBounds_toArray, List.set_cons_zero, List.set_cons_succ, List.getElem_toArray, List.getElem_cons_succ, List.getElem_cons_zero]
  refine wpAnyH_ready (rs := [4]) (by kernel_rfl) (by simp) ?_
  refine AllReadyH.cons rfl (fun K hK => ?_) AllReadyH.nil
  go_simp
  go_wp2_with (go_at_call 159; refine (EA.out _).mono ?_; rintro e w' ⟨rfl, rfl⟩)
  refine hK.out _ _ ?_ (fun hHeld => ?_)
  · exact KB.out _ (Below.refl _ _).drew
  clear hK K
  refine wpAnyH_ready (rs := [9]) (by kernel_rfl) (by simp) ?_
  refine AllReadyH.cons rfl (fun K hK => ?_) AllReadyH.nil
  go_simp
  go_wp2_with (go_at_call 159; refine (EB.out _).mono ?_; rintro e w' ⟨rfl, rfl⟩)
  refine hK.out _ _ ?_ (fun hHeld => ?_)
  · exact KB.out _ (Below.refl _ _).drew
  clear hK K
  refine wpAnyH_ready (rs := [10]) (by kernel_rfl) (by simp) ?_
  refine AllReadyH.cons rfl (fun K hK => ?_) AllReadyH.nil
  go_simp
  refine hK.out _ _ ?_ (fun hHeld => ?_)
  · exact KB.out _ ((Below.refl _ _).drew.alloc (Nat.le_refl _) _)
  clear hK K
  refine wpAnyH_ready (rs := [11]) (by kernel_rfl) (by simp) ?_
  refine AllReadyH.cons rfl (fun K hK => ?_) AllReadyH.nil
  go_simp
  go_wp2_with (go_at_call 158; refine (O.out _ a b _ N0.out N1.out).mono ?_; rintro e w' ⟨rfl, rfl⟩)
  refine hK.out _ _ ?_ (fun hHeld => ?_)
  · exact KB.out _ ((Below.refl _ _).drew.alloc (Nat.le_refl _) _)
  clear hK K
  refine wpAnyH_take (i := 12) (oi := _) (v := ?_) rfl (by kernel_rfl) (by kernel_rfl) (by kernel_rfl) (fun _ _ _ h => h) (Or.inl ⟨by rfl, ?_⟩) (by assumption) ?_
  rotate_left
  · first | (intro w hSw; (try dsimp only at hSw); go_simp; done) | (intro w hSw; (try dsimp only at hSw); go_simp; with_reducible rfl)
  try simp only [Act.put, List.setIfInBounds_toArray, List.set_cons_zero, List.set_cons_succ, List.getElem_toArray, List.getElem_cons_succ, List.getElem_cons_zero]
  refine wpAnyH_done (by kernel_rfl) ?_ _
  go_wp2
  go_ret
  refine ⟨rfl, 1, #[.cells #[.int .i64 x1, .int .i64 x2] 152, .cells #[.int .i64 y1, .int .i64 y2] 152, .cells #[.int .i64 a, .int .i64 b] 3], ?_⟩
  rw [EQ.out, Go.Sort.alloc_eq_grow]
  show Go.Sort.grow (Go.Sort.grow (w.drewN 1) _) _ = _
  rw [Go.Sort.grow_grow]
  rfl

open Go.Sort Go.Shelf Go.Lib in
theorem cmpLays (blk off size : Nat) (w : World) : CmpLays Try.prog 155 #[] (fun x : Int × Int => [.int .i64 x.1, .int .i64 x.2]) 2 cmpE blk off size w :=
  fun _ _ _ _ x y => cmpE_any x y _
open Go.Sort in
theorem ltOf_cmpE (x y : Int × Int) : ltOf cmpE x y = true ↔ Lt2 x y := by
  unfold ltOf
  rw [decide_eq_true_iff]; exact cmpE_lt x y
open Go.Sort in
theorem swoE : SWO (ltOf cmpE) where
  irrefl x := by
    cases h : ltOf cmpE x x
    · rfl
    · exact absurd ((ltOf_cmpE x x).1 h) (Lt2.irr x)
  trans x y z h1 h2 := (ltOf_cmpE x z).2 (((ltOf_cmpE x y).1 h1).trans ((ltOf_cmpE y z).1 h2))
  ntrans x y z h1 h2 := by
    cases h : ltOf cmpE x z
    · rfl
    · have h' := (ltOf_cmpE x z).1 h
      have n1 : ¬ Lt2 x y := fun e => by have := (ltOf_cmpE x y).2 e; rw [h1] at this; cases this
      have n2 : ¬ Lt2 y z := fun e => by have := (ltOf_cmpE y z).2 e; rw [h2] at this; cases this
      unfold Lt2 at *
      omega
end Go.Proofs.Ytdmfljejlhlbnaa
namespace Go.Proofs.Ytdmfljejlhlbnaa
open Go.RowKit Go.Maps
set_option linter.unusedVariables false

theorem laidOut : laidOutB Try.prog = true := by kernel_rfl
theorem row63 : (152 : TypeId) < Try.prog.types.size := of_decide_eq_true (by kernel_rfl)
theorem wide63 : (match Try.prog.underlying 152 with | some (.array _ _) | some (.struct _) => true | _ => false) = true := by rw [Try.underlying152]
theorem deep63 : Try.prog.keyTypeAt 2 152 = true := by kernel_rfl
set_option maxRecDepth 100000 in
theorem law63 : Keyed Try.prog 152 := Keyed.of_law (deep_law_laid laidOut (m := 2) (Nat.le_of_ble_eq_true rfl) row63 deep63 wide63)
theorem keyType63 : Try.prog.keyType 152 = true := by kernel_rfl
theorem cells63 : Try.prog.cellsOf 152 = 2 := by kernel_rfl
theorem cells2 : Try.prog.cellsOf 2 = 1 := by kernel_rfl
theorem formed63 (x : Int × Int) : (EV x).formed Try.prog 152 = true := by simp [Value.formed, Try.underlying152, cells63]
theorem size_types : ∃ m, Try.prog.types.size + 1 = m + 1 + 1 := ⟨Try.prog.types.size - 1, by have h : (152 : Nat) < Try.prog.types.size := row63; omega⟩
theorem key_some (x : Int × Int) (h1 : wfI x.1) (h2 : wfI x.2) : keyOf Try.prog 152 (EV x) = some (.string (keyBytes [.int .i64 x.1, .int .i64 x.2])) := by
  unfold keyOf
  simp only [Try.underlying152]
  rw [if_pos (by rw [keyType63, formed63]; rfl)]
  obtain ⟨m, hm⟩ := size_types
  rw [hm]
  unfold Program.keyLits
  simp only [Try.underlying152, Value.cells]
  unfold wfI at h1 h2
  rw [if_pos ⟨by rw [cells63]; rfl, by simp⟩, List.mapM_cons, List.mapM_cons, List.mapM_nil]
  simp [Program.keyLits, cells2, Try.underlying2, h1, h2]
theorem lits2 {d : Nat} {c : Value} {ls : List Lit} (h : Try.prog.keyLits (d + 1) 2 [c] = some ls) : ∃ a : Int, c = .int .i64 a ∧ wfI a := by
  unfold Program.keyLits at h
  simp only [Try.underlying2] at h
  cases c <;> simp at h
  exact ⟨_, by rw [h.1.1], h.1.2⟩
theorem key_inv (v : Value) (kl : Lit) (h : keyOf Try.prog 152 v = some kl) : ∃ x : Int × Int, v = EV x ∧ wfI x.1 ∧ wfI x.2 := by
  unfold keyOf at h
  simp only [Try.underlying152] at h
  split at h
  · rename_i hf
    rw [Bool.and_eq_true] at hf
    obtain ⟨-, hf⟩ := hf
    cases v <;> simp [Value.formed, Try.underlying152] at hf
    rename_i cs
    rw [cells63] at hf
    obtain ⟨c0, c1, rfl⟩ : ∃ c0 c1, cs = #[c0, c1] := by
      obtain ⟨l⟩ := cs
      rcases l with _ | ⟨a, _ | ⟨b, _ | ⟨c, r⟩⟩⟩ <;> simp at hf
      exact ⟨a, b, rfl⟩
    obtain ⟨m, hm⟩ := size_types
    rw [hm] at h
    unfold Program.keyLits at h
    simp only [Try.underlying152, Value.cells] at h
    rw [if_pos ⟨by rw [cells63]; rfl, by simp⟩, List.mapM_cons, List.mapM_cons, List.mapM_nil] at h
    simp only [cells2, List.drop_zero, List.drop_succ_cons, List.take_succ_cons, List.take_zero, List.take_nil] at h
    cases e0 : Try.prog.keyLits (m + 1) 2 [c0] with
    | none => rw [e0] at h; simp at h
    | some l0 =>
      cases e1 : Try.prog.keyLits (m + 1) 2 [c1] with
      | none => rw [e0, e1] at h; simp at h
      | some l1 =>
        obtain ⟨a, rfl, wa⟩ := lits2 e0
        obtain ⟨b, rfl, wb⟩ := lits2 e1
        exact ⟨(a, b), rfl, wa, wb⟩
  · cases h
/-- What a key reads as. -/
noncomputable def kOf (x : Int × Int) : Lit := .string (keyBytes [.int .i64 x.1, .int .i64 x.2])
theorem key_is (x : Int × Int) (h : wfI x.1 ∧ wfI x.2) : keyOf Try.prog 152 (EV x) = some (kOf x) := key_some x h.1 h.2
theorem kOf_inj {x y : Int × Int} (hx : wfI x.1 ∧ wfI x.2) (hy : wfI y.1 ∧ wfI y.2) (h : kOf x = kOf y) : x = y := by
  have := law63.inj (key_is x hx) (by rw [h]; exact key_is y hy)
  simp only [EV, Value.agg.injEq, Array.mk.injEq, List.cons.injEq, Value.int.injEq, true_and, and_true] at this
  exact Prod.ext this.1 this.2
theorem kOf_key (x : Int × Int) (h : wfI x.1 ∧ wfI x.2) : WideAt.IsKeyLit (kOf x) := law63.key (key_is x h)

/-- The map of kinds, as the first k pairs make it. -/
noncomputable def Kd (ps : List LPr) : DataW Unit := ps.foldl (fun D p => D.put (kOf (ends p)) (.lit (.int .i64 p.2.2))) (.map [])
theorem Kd_add (ps : List LPr) (p : LPr) : Kd (ps ++ [p]) = (Kd ps).put (kOf (ends p)) (.lit (.int .i64 p.2.2)) := by simp [Kd]
theorem fold_has (ps : List LPr) (hw : ∀ p ∈ ps, WfP p) (x : Int × Int) (hx : wfI x.1 ∧ wfI x.2) : ∀ D : DataW Unit, IsMap D → (Maps.has (ps.foldl (fun D p => D.put (kOf (ends p)) (.lit (.int .i64 p.2.2))) D) (kOf x) = true ↔ Maps.has D (kOf x) = true ∨ x ∈ ps.map ends) := by
  induction ps with
  | nil => intro D h; simp
  | cons p r ih =>
    intro D h
    have hp := hw p (by simp)
    rw [List.foldl_cons, ih (fun q hq => hw q (by simp [hq])) _ (h.put _ _)]
    by_cases e : x = ends p
    · subst e
      rw [has_put_same h (kOf_key _ hp.1)]
      simp
    · have ne : kOf x ≠ kOf (ends p) := fun h' => e (kOf_inj hx hp.1 h')
      rw [has_put_other ne]
      simp [e]
theorem Kd_has (ps : List LPr) (hw : ∀ p ∈ ps, WfP p) (x : Int × Int) (hx : wfI x.1 ∧ wfI x.2) : Maps.has (Kd ps) (kOf x) = true ↔ x ∈ ps.map ends := by
  unfold Kd
  rw [fold_has ps hw x hx _ isMap_empty]
  simp [Maps.has]

set_option maxHeartbeats 400000 in
theorem en_any (p : LPr) (w : World) : Calls Try.prog 145 #[.agg #[.int .i64 p.1, .int .i64 p.2.1, .int .i64 p.2.2]] w fun e w' => e = .returned (EV (ends p)) ∧ Below w.heap.size w w' := by
  obtain ⟨a, b, q⟩ := p
  unfold ends
  go_enter Try.func145, Try.ntmps145
  go_wp2
  exact bodyPost_ret (v := EV (a, b)) (by simp [results, Try.results145, go_sem]) rfl ⟨rfl, bA (bA0 _ _) _⟩

theorem mk_map (n : Int) (w : World) : Sem.run Try.prog (Instr.makeMap 149 (some (.int .i64 n))) w = .ok (.map (some w.heap.size)) (w.alloc (.map #[] 0)) := by
  simp [Instr.makeMap, run_underlying Try.underlying149, Result.andThen, asInt, asIntOf]

set_option maxRecDepth 100000 in
set_option maxHeartbeats 1000000 in
theorem ks_nil (sl : Option Addr) (cap : Nat) (w : World) :
    Calls Try.prog 124 #[.slice sl 0 cap] w fun e w' => e = .returned (.map (some w.heap.size)) ∧ w'.ownsMap Try.prog 152 (plainElem (H := Unit) Try.prog 2) w.heap.size 0 (.map []) ∧ Below w.heap.size w w' := by
  have hmm := mk_map
  go_enter Try.func124, Try.ntmps124
  go_wp2
  refine wp_loop_rounds 1 ?_
  rw [rounds_succ]
  go_wp2
  go_ret
  exact ⟨rfl, World.ownsMap_made _ _ _ _, bA0 _ _⟩

/-- A pair in a block of its own. -/
def PAt3 (w : World) (b : Nat) (x y z : Int) : Prop := w.heap[b]? = some (.cells #[.int .i64 x, .int .i64 y, .int .i64 z] 112)
theorem PAt3.new (w : World) (x y z : Int) : PAt3 (w.alloc (.cells #[.int .i64 x, .int .i64 y, .int .i64 z] 112)) w.heap.size x y z := by
  show (w.heap.push _)[w.heap.size]? = _
  simp
theorem PAt3.lt {w : World} {b : Nat} {x y z : Int} (h : PAt3 w b x y z) : b < w.heap.size := (Array.getElem?_eq_some_iff.1 h).1
theorem PAt3.below {w w' : World} {b : Nat} {x y z : Int} (h : PAt3 w b x y z) (hb : Below w.heap.size w w') : PAt3 w' b x y z := (hb.block b h.lt).trans h
theorem PAt3.cells {w : World} {b : Nat} {x y z : Int} (h : PAt3 w b x y z) : b < w.heap.size ∧ w.cell? ⟨b, 0, none⟩ = some (.int .i64 x) ∧ w.cell? ⟨b, 1, none⟩ = some (.int .i64 y) ∧ w.cell? ⟨b, 2, none⟩ = some (.int .i64 z) := by
  have hl := h.lt
  unfold PAt3 at h
  refine ⟨hl, ?_, ?_, ?_⟩ <;> simp [World.cell?, h]
theorem PAt3.kept {w w' : World} {b : Nat} {x y z : Int} (h : PAt3 w b x y z) (hb : Below w.heap.size w w') : b < w'.heap.size ∧ w'.cell? ⟨b, 0, none⟩ = some (.int .i64 x) ∧ w'.cell? ⟨b, 1, none⟩ = some (.int .i64 y) ∧ w'.cell? ⟨b, 2, none⟩ = some (.int .i64 z) := (h.below hb).cells
theorem PAt3.grown {w w' : World} {b c : Nat} {x y z : Int} (h : PAt3 w b x y z) (hg : w.grownBy w' (some c)) (hc : c ≠ b) : b < w'.heap.size ∧ w'.cell? ⟨b, 0, none⟩ = some (.int .i64 x) ∧ w'.cell? ⟨b, 1, none⟩ = some (.int .i64 y) ∧ w'.cell? ⟨b, 2, none⟩ = some (.int .i64 z) :=
  PAt3.cells ((hg.block b h.lt (fun e => hc (Option.some.inj e).symm)).trans h)
theorem Below.grownN {w w' : World} (h : Below w.heap.size w w') : w.grownBy w' none := ⟨h.os, h.tape, h.output, h.size, fun k hk _ => h.block k hk⟩
theorem _root_.Go.World.ownsMap.belowM {H : Type} {P : Program} {k : TypeId} {R : Value → Option (DataW H × List MemPlace)} {w w' : World} {b n : Nat} {D : DataW H} (h : w.ownsMap P k R b n D) (hb : Below w.heap.size w w') : w'.ownsMap P k R b n D := h.kept (Below.grownN hb) (by simp)

set_option maxRecDepth 100000 in
set_option maxHeartbeats 1000000 in
theorem ks_some (c o cap : Nat) (ps : List LPr) (w : World) (hn : ps.length ≤ 1000) (hz : PrAt w c o ps) (hw : ∀ p ∈ ps, WfP p) :
    Calls Try.prog 124 #[.slice (some ⟨c, o, none⟩) ps.length cap] w fun e w' => e = .returned (.map (some w.heap.size)) ∧ w'.ownsMap Try.prog 152 (plainElem (H := Unit) Try.prog 2) w.heap.size ps.length (Kd ps) ∧ Below w.heap.size w w' := by
  have HZ := Lib.hid hz
  have HW := Lib.hid hw
  clear hz hw
  generalize hN : ps.length = n at *
  have HN := Lib.hid hN
  clear hN
  have hmm := mk_map
  go_enter Try.func124, Try.ntmps124
  go_wp2
  have HM0 := Lib.hid (World.ownsMap_made w Try.prog 152 (plainElem (H := Unit) Try.prog 2))
  go_loopw [11] (fun i wr => ∃ k : Nat, i = .int .i64 k ∧ k ≤ n ∧ Hid (wr.ownsMap Try.prog 152 (plainElem (H := Unit) Try.prog 2) w.heap.size k (Kd (ps.take k))) ∧ Hid (Below w.heap.size w wr)) (fun i _ => n - (intOf i).toNat)
  case atStart => exact ⟨0, rfl, Nat.zero_le _, HM0, bA0 _ _⟩
  case round =>
    obtain ⟨k, rfl, hk, M0, H2⟩ := hrel
    have hk0 : (0 : Int) ≤ (k : Int) := by omega
    by_cases h1 : k < n
    · have h1' : (k : Int) < (n : Int) := by omega
      have hlt : k < ps.length := by rw [HN.out]; exact h1
      obtain ⟨a, b, q, hp⟩ : ∃ a b q, ps[k] = (a, b, q) := ⟨_, _, _, rfl⟩
      have hc0 := (H2.out.cell HZ.out.lt).trans (HZ.out.cell k hlt).1
      have hc1 := (H2.out.cell HZ.out.lt).trans (HZ.out.cell k hlt).2.1
      have hc2 := (H2.out.cell HZ.out.lt).trans (HZ.out.cell k hlt).2.2
      have HW1 := Lib.hid (HW.out ps[k] (List.getElem_mem hlt))
      have KE := Lib.hid (show Kd (ps.take (k + 1)) = (Kd (ps.take k)).put (kOf (ends ps[k])) (.lit (.int .i64 ps[k].2.2)) by rw [List.take_add_one, List.getElem?_eq_getElem hlt]; exact Kd_add _ _)
      rw [hp] at hc0 hc1 hc2 HW1 KE
      dsimp only at hc0 hc1 hc2 HW1 KE
      have hcl : c < wr.heap.size := Nat.lt_of_lt_of_le HZ.out.lt H2.out.size
      have hs2 := H2.out.size
      have E1 : Hid (∀ W, Calls Try.prog 145 #[.agg #[.int .i64 a, .int .i64 b, .int .i64 q]] W fun e w' => e = .returned (.agg #[.int .i64 a, .int .i64 b]) ∧ Below W.heap.size W w') := fun W => en_any (a, b, q) W
      have hml := M0.out.lt
      have M1 := Lib.hid (M0.out.alloc (.cells #[.int .i64 a, .int .i64 b, .int .i64 q] 112))
      have B1 := Lib.hid (bA H2.out (.cells #[.int .i64 a, .int .i64 b, .int .i64 q] 112))
      have PA := Lib.hid (PAt3.new wr a b q)
      clear hp hlt
      go_wp2_with fail
      generalize wr.alloc (.cells #[.int .i64 a, .int .i64 b, .int .i64 q] 112) = w1 at *
      have KB : Hid (∀ W, Below w1.heap.size w1 W → wr.heap.size < W.heap.size ∧ W.cell? ⟨wr.heap.size, 0, none⟩ = some (.int .i64 a) ∧ W.cell? ⟨wr.heap.size, 1, none⟩ = some (.int .i64 b) ∧ W.cell? ⟨wr.heap.size, 2, none⟩ = some (.int .i64 q)) := fun W hW => PA.out.kept hW
      have KG : Hid (∀ W W', Below w1.heap.size w1 W → W.grownBy W' (some w.heap.size) → wr.heap.size < W'.heap.size ∧ W'.cell? ⟨wr.heap.size, 0, none⟩ = some (.int .i64 a) ∧ W'.cell? ⟨wr.heap.size, 1, none⟩ = some (.int .i64 b) ∧ W'.cell? ⟨wr.heap.size, 2, none⟩ = some (.int .i64 q)) := fun W W' hW hg => (PA.out.below hW).grown hg (by omega)
      refine wp_region_held_drew (S := fun W => wr.heap.size < W.heap.size ∧ W.cell? ⟨wr.heap.size, 0, none⟩ = some (.int .i64 a) ∧ W.cell? ⟨wr.heap.size, 1, none⟩ = some (.int .i64 b) ∧ W.cell? ⟨wr.heap.size, 2, none⟩ = some (.int .i64 q)) (by kernel_rfl) ?_ (fun hHeld => ?_)
      · exact KB.out _ (Below.refl _ _).drew
      refine wpAnyH_take (i := 0) (oi := _) (v := ?_) rfl (by kernel_rfl) (by kernel_rfl) (by kernel_rfl) (fun _ _ _ h => h) (Or.inl ⟨by rfl, ?_⟩) (by assumption) ?_
      rotate_left
      · first | (intro w hSw; (try dsimp only at hSw); go_simp; done) | (intro w hSw; (try dsimp only at hSw); go_simp; with_reducible rfl)
      try simp only [Act.put, List.setIfInBounds_toArray, List.set_cons_zero, List.set_cons_succ, List.getElem_toArray, List.getElem_cons_zero]
      refine wpAnyH_take (i := 1) (oi := _) (v := ?_) rfl (by kernel_rfl) (by kernel_rfl) (by kernel_rfl) (fun _ _ _ h => h) (Or.inl ⟨by rfl, ?_⟩) (by assumption) ?_
      rotate_left
      · first | (intro w hSw; (try dsimp only at hSw); go_simp; done) | (intro w hSw; (try dsimp only at hSw); go_simp; with_reducible rfl)
      try simp only [Act.put, List.setIfInBounds_toArray, List.set_cons_zero, List.set_cons_succ, List.getElem_toArray, List.getElem_cons_succ, List.getElem_cons_zero]
      refine wpAnyH_take (i := 3) (oi := _) (v := ?_) rfl (by kernel_rfl) (by kernel_rfl) (by kernel_rfl) (fun _ _ _ h => h) (Or.inl ⟨by rfl, ?_⟩) (by assumption) ?_
      rotate_left
      · first | (intro w hSw; (try dsimp only at hSw); go_simp; done) | (intro w hSw; (try dsimp only at hSw); go_simp; with_reducible rfl)
      try simp only [Act.put, List.setIfInBounds_toArray, List.set_cons_zero, List.set_cons_succ, List.getElem_toArray, List.getElem_cons_succ, List.getElem_cons_zero]
      refine wpAnyH_take (i := 4) (oi := _) (v := ?_) rfl (by kernel_rfl) (by kernel_rfl) (by kernel_rfl) (fun _ _ _ h => h) (Or.inl ⟨by rfl, ?_⟩) (by assumption) ?_
      rotate_left
      · first | (intro w hSw; (try dsimp only at hSw); go_simp; done) | (intro w hSw; (try dsimp only at hSw); go_simp; with_reducible rfl)
      try simp only [Act.put, List.setIfInBounds_toArray, List.set_cons_zero, List.set_cons_succ, List.getElem_toArray, List.getElem_cons_succ, List.getElem_cons_zero]
      refine wpAnyH_ready (rs := [2]) (by kernel_rfl) (by simp) ?_
      refine AllReadyH.cons rfl (fun K hK => ?_) AllReadyH.nil
      go_simp
      go_wp2_with (go_at_call 145; refine (E1.out _).mono ?_; rintro e w5 ⟨rfl, b5⟩)
      have D5 : Hid (Below w1.heap.size w1 w5) := bT ((Below.refl w1.heap.size w1).drew) b5
      clear b5
      refine hK.out _ _ ?_ (fun hHeld => ?_)
      · exact KB.out _ D5.out
      clear hK K
      refine wpAnyH_ready (rs := [5]) (by kernel_rfl) (by simp) ?_
      refine AllReadyH.cons rfl (fun K hK => ?_) AllReadyH.nil
      have M5 := Lib.hid (M1.out.belowM D5.out)
      obtain ⟨w6, hrun, own6, grow6⟩ := M5.out.update law63 Try.underlying149 (by unfold maxLen; omega) (key_is (a, b) HW1.out.1) (plainElem_int Try.underlying2 HW1.out.2)
      have D6 := Lib.hid grow6
      clear grow6
      dsimp only [EV] at hrun
      go_simp
      refine hK.out _ _ ?_ (fun hHeld => ?_)
      · exact KG.out _ _ D5.out D6.out
      clear hK K
      refine wpAnyH_done (by kernel_rfl) ?_ _
      have B6 := Lib.hid ((bT B1.out D5.out).grown D6.out (Nat.le_trans H2.out.size (Nat.le_trans (by have := PA.out.lt; omega) D5.out.size)) (fun j hj => by cases hj; exact Nat.le_refl _))
      have N6 : Hid (w6.ownsMap Try.prog 152 (plainElem (H := Unit) Try.prog 2) w.heap.size (k + 1) (Kd (ps.take (k + 1)))) := by rw [KE.out]; exact own6
      clear own6 hrun M5 D5 D6 KB KG PA
      go_wp2_with fail
      go_roundw
      case rel => exact ⟨k + 1, by go_num, by omega, N6, B6⟩
      case measure => simp [intOf]; omega
    · have h1' : ¬ (k : Int) < (n : Int) := by omega
      have e : k = n := by omega
      have M9 := M0.out
      rw [List.take_of_length_le (by rw [HN.out]; omega), e] at M9
      have P := Lib.hid (And.intro M9 H2.out)
      clear M9 M0
      go_wp2
      go_ret
      exact ⟨rfl, P.out.1, P.out.2⟩

theorem ks_any (sl : Option Addr) (cap : Nat) (ps : List LPr) (w : World) (hn : ps.length ≤ 1000) (hz : Prs w sl ps) (hw : ∀ p ∈ ps, WfP p) :
    Calls Try.prog 124 #[.slice sl ps.length cap] w fun e w' => e = .returned (.map (some w.heap.size)) ∧ w'.ownsMap Try.prog 152 (plainElem (H := Unit) Try.prog 2) w.heap.size ps.length (Kd ps) ∧ Below w.heap.size w w' := by
  rcases hz with rfl | ⟨c, o, rfl, h⟩
  · exact ks_nil sl cap w
  · exact ks_some c o cap ps w hn h hw

end Go.Proofs.Ytdmfljejlhlbnaa
