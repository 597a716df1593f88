/-
  THE SEARCH FOR A PLAN AS THE MODEL MAKES IT: spec's from, by its depth.
-/
import Derived.Test.YtgfclllfkpblnaaXb
import Derived.Test.YtgfclllfkpblnaaPi
import Derived.Test.YtgfclllfkpblnaaUe
import Derived.Lib.AppendZeros
namespace Go.Proofs.Ytgfclllfkpblnaa
open Go.RowKit
set_option linter.unusedVariables false

/-- Of the blocks that were there only block b may have turned. -/
structure Onl (b : Nat) (w w' : World) : Prop where
  os : w'.os = w.os
  tape : w'.tape = w.tape
  output : w'.output = w.output
  size : w.heap.size ≤ w'.heap.size
  block : ∀ k, k < w.heap.size → k ≠ b → w'.heap[k]? = w.heap[k]?
theorem Onl.refl (b : Nat) (w : World) : Onl b w w := ⟨rfl, rfl, rfl, Nat.le_refl _, fun _ _ _ => rfl⟩
theorem Onl.trans {b : Nat} {u v w : World} (h : Onl b u v) (k : Onl b v w) : Onl b u w :=
  ⟨k.os.trans h.os, k.tape.trans h.tape, k.output.trans h.output, Nat.le_trans h.size k.size, fun i hi hb => (k.block i (Nat.lt_of_lt_of_le hi h.size) hb).trans (h.block i hi hb)⟩
theorem Onl.drew {b : Nat} {u v : World} (h : Onl b u v) : Onl b u v.drew := ⟨h.os, h.tape, h.output, h.size, h.block⟩
theorem Onl.setCell {b : Nat} {u v : World} (h : Onl b u v) (o : Nat) (x : Value) : Onl b u (v.setCell ⟨b, o, none⟩ x) :=
  h.trans ⟨rfl, rfl, rfl, by simp [World.setCell], fun k _ hk => Below.heap_setCell _ _ _ _ hk⟩
theorem Onl.of_below {b : Nat} {u v : World} (h : Below u.heap.size u v) : Onl b u v := ⟨h.os, h.tape, h.output, h.size, fun k hk _ => h.block k hk⟩
theorem Onl.below {b : Nat} {u v w : World} (h : Below u.heap.size u v) (hb : u.heap.size ≤ b) (k : Onl b v w) : Below u.heap.size u w :=
  ⟨k.os.trans h.os, k.tape.trans h.tape, k.output.trans h.output, Nat.le_trans h.size k.size, fun i hi => (k.block i (Nat.lt_of_lt_of_le hi h.size) (by omega)).trans (h.block i hi)⟩
theorem Onl.cell {b : Nat} {w w' : World} (h : Onl b w w') {c o : Nat} (hc : c < w.heap.size) (hb : c ≠ b) : w'.cell? ⟨c, o, none⟩ = w.cell? ⟨c, o, none⟩ := World.cell?_of_block (w := w) (h.block c hc hb)

/-- The seeker: the table, the top, the ids, the budget, the steps, and whether it is used up. -/
def SeekAt (w : World) (kb : Nat) (a b c d : Value) (bud s : Nat) (out : Bool) : Prop := w.heap[kb]? = some (.cells #[a, b, c, d, .int .i64 (bud : Nat), .int .i64 (s : Nat), .bool out] 52)
theorem SeekAt.facts {w : World} {kb : Nat} {a b c d : Value} {bud s : Nat} {out : Bool} (h : SeekAt w kb a b c d bud s out) : kb < w.heap.size ∧ w.cell? ⟨kb, 0, none⟩ = some a ∧ w.cell? ⟨kb, 1, none⟩ = some b ∧ w.cell? ⟨kb, 2, none⟩ = some c ∧ w.cell? ⟨kb, 3, none⟩ = some d ∧ w.cell? ⟨kb, 4, none⟩ = some (.int .i64 (bud : Nat)) ∧ w.cell? ⟨kb, 5, none⟩ = some (.int .i64 (s : Nat)) ∧ w.cell? ⟨kb, 6, none⟩ = some (.bool out) ∧ w.frozen? ⟨kb, 5, none⟩ = false ∧ w.frozen? ⟨kb, 6, none⟩ = false := by
  unfold SeekAt at h
  exact ⟨(Array.getElem?_eq_some_iff.1 h).1, by simp [World.cell?, h], by simp [World.cell?, h], by simp [World.cell?, h], by simp [World.cell?, h], by simp [World.cell?, h], by simp [World.cell?, h], by simp [World.cell?, h], by simp [World.frozen?, h], by simp [World.frozen?, h]⟩
theorem SeekAt.of {w w' : World} {kb : Nat} {a b c d : Value} {bud s : Nat} {out : Bool} (h : SeekAt w kb a b c d bud s out) (hb : Below w.heap.size w w') : SeekAt w' kb a b c d bud s out := (hb.block kb h.facts.1).trans h
theorem SeekAt.step {w : World} {kb : Nat} {a b c d : Value} {bud s : Nat} {out : Bool} (h : SeekAt w kb a b c d bud s out) : SeekAt (w.setCell ⟨kb, 5, none⟩ (.int .i64 ((s : Int) + 1))) kb a b c d bud (s + 1) out := by
  have := heap_setCell_same w kb 5 _ 52 (.int .i64 ((s : Int) + 1)) h
  unfold SeekAt
  rw [this]
  simp
theorem SeekAt.used {w : World} {kb : Nat} {a b c d : Value} {bud s : Nat} {out : Bool} (h : SeekAt w kb a b c d bud s out) : SeekAt (w.setCell ⟨kb, 6, none⟩ (.bool true)) kb a b c d bud s true := by
  have := heap_setCell_same w kb 6 _ 52 (.bool true) h
  unfold SeekAt
  rw [this]
  simp
/-- A slice of places in another block. -/
def PlsN (kb : Nat) (w : World) (sl : Option Addr) (pl : List LPl) : Prop := pl = [] ∨ ∃ c o, sl = some ⟨c, o, none⟩ ∧ PlAt w c o pl ∧ kb < c
theorem PlsN.pls {kb : Nat} {w : World} {sl : Option Addr} {pl : List LPl} (h : PlsN kb w sl pl) : Pls w sl pl := by
  rcases h with h | ⟨c, o, e, h, _⟩
  · exact .inl h
  · exact .inr ⟨c, o, e, h⟩
theorem PlsN.onl {kb : Nat} {w w' : World} {sl : Option Addr} {pl : List LPl} (h : PlsN kb w sl pl) (k : Onl kb w w') : PlsN kb w' sl pl := by
  rcases h with h | ⟨c, o, e, h, hc⟩
  · exact .inl h
  · exact .inr ⟨c, o, e, ⟨Nat.lt_of_lt_of_le h.lt k.size, fun i hi => ⟨(k.cell h.lt (by omega)).trans (h.cell i hi).1, (k.cell h.lt (by omega)).trans (h.cell i hi).2⟩⟩, hc⟩
/-- What the search leaves behind it. -/
def PostF (kb : Nat) (a b c d : Value) (bud : Nat) (w' : World) (v : Value) (ok : Bool) : SRes → Prop
  | .found p s => ok = true ∧ (∃ psl pcap, v = .slice psl p.length pcap ∧ PlsN kb w' psl p) ∧ SeekAt w' kb a b c d bud s false
  | .none s => ok = false ∧ SeekAt w' kb a b c d bud s false
  | .out s => ok = false ∧ SeekAt w' kb a b c d bud s true
/-- How the search comes back. -/
def FromP (kb : Nat) (a b c d : Value) (bud : Nat) (w : World) (r : SRes) (e : Ending) (w' : World) : Prop := ∃ v ok, e = .returned (.tuple #[v, .bool ok]) ∧ PostF kb a b c d bud w' v ok r ∧ Onl kb w w'
/-- What stands behind a choice that fits. -/
def orR (r : SRes) (g : Nat → SRes) : SRes := match r with | .none s => g s | .found p s => .found p s | .out s => .out s
/-- Places put behind places: both ways of it. -/
theorem app27 {w : World} {B : Nat} {v : Value} {cs : List LPl} (h : w.ownsRow B 62 2 v cs.length (enCells cs)) {psl : Option Addr} {pcap : Nat} {pl : List LPl} (hp : Pls w psl pl) (hB : B ≤ w.heap.size) (hl : cs.length + pl.length ≤ 100000000) :
    ∃ v9 w9, (Builtin.append_ #[30, 30] 30 #[v, .slice psl pl.length pcap]).run Try.prog w = .ok v9 w9 ∧ w9.ownsRow B 62 2 v9 (cs ++ pl).length (enCells (cs ++ pl)) ∧ w.grownBy w9 v.ownBlock ∧ ∀ j, v.ownBlock = some j → B ≤ j := by
  obtain ⟨i3, hi3, hd0, hd1, hd2⟩ := info_parts info34
  have hlo : ∀ j, v.ownBlock = some j → B ≤ j := fun j hj => (h.lt j hj).1
  obtain ⟨sl, cap, rfl⟩ := own_v h
  by_cases he : pl = []
  · subst he
    refine ⟨_, w, app_none27 w 30 sl cs.length cap ?_ psl pcap, by rw [List.append_nil]; exact h, ⟨rfl, rfl, rfl, Nat.le_refl _, fun _ _ _ => rfl⟩, hlo⟩
    rcases h.2 with ⟨hv, h0⟩ | ⟨g, cp, cur, hv, _, _, h5, _⟩
    · rw [h0]; exact Nat.zero_le _
    · cases hv; exact h5
  · rcases hp with e | ⟨c, o, rfl, pa⟩
    · exact absurd e he
    · obtain ⟨g, c9, w9, hr, own9, grow9, -, -⟩ := run_append_lies (P := Try.prog) w 30 30 B 62 i3 (.agg #[.int .i64 0, .int .i64 0]) 2 16 Try.underlying30 hi3 hd0 hd1 hd2 rfl (by decide) _ _ _ h ⟨c, o, none⟩ pl.length pcap (enCells pl) (enCells_len pl) (pl_cells pa) (enCells_one pl) (List.length_pos_iff.2 he) (by unfold maxLen; omega) (by omega) hB w.heap.size rfl
      exact ⟨_, w9, hr, by rw [List.length_append, enCells_app]; exact own9, grow9, hlo⟩
theorem step_append_run (w : World) {ops : Array Oper} {o : Oper} {a : Act} {K : Act → World → Prop} {Q : Exit → Act → World → Prop} {E : Prop} (hgd : o.guard = none) (s x : Operand) (t tn : TypeId)
    (ho : o.op = .call { callee := .builtin .append, args := #[s, x], argTypes := #[t, tn] }) (vs vx : Value) (hs : a.eval s = vs) (hx : a.eval x = vx)
    (v' : Value) (w' : World) (hr : (Builtin.append_ #[t, tn] o.type #[vs, vx]).run Try.prog w = .ok v' w') (h : K (a.put o.dst v') w') : if Region.wanted o (yielded ops a.tmps) = true then Oper.wp Try.prog o a w K Q else E := by
  have hw : Region.wanted o (yielded ops a.tmps) = true := by simp [Region.wanted, hgd]
  rw [if_pos hw]
  exact Lib.wp_append_run w s x t tn ho vs vx hs hx v' w' hr h
theorem lit27 (w : World) (x y : Int) : Pls (w.alloc (.cells #[.int .i64 x, .int .i64 y] 62)) (some ⟨w.heap.size, 0, none⟩) [(x, y)] :=
  .inr ⟨w.heap.size, 0, rfl, by simp, fun i hi => by
    have h0 : i = 0 := by simp at hi; omega
    subst h0
    exact (TwoAt.new w x y).cells⟩
theorem lit27' (w : World) (o : Obj) (x y : Int) : Pls ((w.alloc o).alloc (.cells #[.int .i64 x, .int .i64 y] 62)) (some ⟨w.heap.size + 1, 0, none⟩) [(x, y)] := by
  have := lit27 (w.alloc o) x y
  rwa [show (w.alloc o).heap.size = w.heap.size + 1 by simp] at this
theorem litK27 {w w' : World} {g : Nat} {pl : List LPl} {row : Option Nat} (h : Pls w (some ⟨g, 0, none⟩) pl) (hg : w.grownBy w' row) (hr : some g ≠ row) : Pls w' (some ⟨g, 0, none⟩) pl := by
  rcases h with h | ⟨c, o, e, h⟩
  · exact .inl h
  · cases e
    exact .inr ⟨g, 0, rfl, Nat.lt_of_lt_of_le h.lt hg.size, fun i hi => ⟨(hg.cell_far _ h.lt hr).trans (h.cell i hi).1, (hg.cell_far _ h.lt hr).trans (h.cell i hi).2⟩⟩
theorem own_e34' (w : World) (o : Obj) : ((w.alloc o).alloc (.cells #[] 62)).ownsRow w.heap.size 62 2 (.slice (some ⟨w.heap.size + 1, 0, none⟩) 0 0) 0 (enCells []) := by
  have := own_e34 (w.alloc o)
  rw [show (w.alloc o).heap.size = w.heap.size + 1 by simp] at this
  exact own_mono this (by omega)
theorem all_take (f : LPl → Bool) (pl : List LPl) (j : Nat) (h : j < pl.length) : (pl.take (j + 1)).all f = ((pl.take j).all f && f pl[j]) := by
  rw [List.take_succ_eq_append_getElem h, List.all_append]
  simp

set_option maxRecDepth 100000 in
set_option maxHeartbeats 8000000 in
/-- spec's from. -/
theorem from_any (sl : Option Addr) (cap : Nat) (sl2 : Option Addr) (cap2 : Nat) (sl3 : Option Addr) (cap3 : Nat) (rs : List LSt) (ps : List LPr) (top : Int) (ids : List Int) (bud kb : Nat) (wb : World) (hkb : wb.heap.size ≤ kb) (hbu : bud ≤ 2000) (hrn : rs.length ≤ 1048576) (hl : ids.length ≤ 400) (hz : Sts wb sl rs) (hp : Prs wb sl2 ps) (TR : TabR rs ps) (hid : ∀ x ∈ ids, 1 ≤ x ∧ x ≤ 999) (hi : Ints wb sl3 ids) :
    ∀ (q : Nat) (pl : List LPl) (s : Nat) (psl : Option Addr) (pcap : Nat) (w : World), pl.length + q = ids.length → s ≤ bud → Below wb.heap.size wb w → SeekAt w kb (.slice sl rs.length cap) (.slice sl2 ps.length cap2) (.int .i64 top) (.slice sl3 ids.length cap3) bud s false → PlsN kb w psl pl → (∀ x ∈ pl, Small x) →
    Calls Try.prog 21 #[.pointer (some ⟨kb, 0, none⟩), .slice psl pl.length pcap] w (FromP kb (.slice sl rs.length cap) (.slice sl2 ps.length cap2) (.int .i64 top) (.slice sl3 ids.length cap3) bud w (seek (fitB ps) bud ((ids.map (chF rs top)).drop pl.length) pl s)) := by
  have E4' : Hid (∀ id W, Below wb.heap.size wb W → Calls Try.prog 31 #[TV sl rs.length cap sl2 ps.length cap2, .int .i64 id, .int .i64 top] W fun e w' => ∃ v, e = .returned v ∧ w'.ownsRow W.heap.size 2 1 v (rs.flatMap (domF id top)).length (valsZ (rs.flatMap (domF id top))) ∧ Below W.heap.size W w') := fun id W hW => by
    have := sdo_any sl cap sl2 cap2 rs ps id top W hrn (hz.below hW) (hp.below hW)
    rwa [show domA rs ps id top = rs.flatMap (domF id top) from if_pos (B_yes TR)] at this
  have EM' : Hid (∀ a c b d W, 0 ≤ c ∧ c ≤ 1000 → 0 ≤ d ∧ d ≤ 1000 → Below wb.heap.size wb W → Calls Try.prog 32 #[TV sl rs.length cap sl2 ps.length cap2, .int .i64 a, .int .i64 c, .int .i64 b, .int .i64 d] W fun e w' => e = .returned (.bool (mayL ps a c b d)) ∧ Below W.heap.size W w') := fun a c b d W hc hd hW => may_any sl rs.length cap sl2 cap2 ps a c b d W (by have := TR.1.2.2; omega) hc hd (hp.below hW)
  have FM := Lib.hid (fun pl x => fit_may rs ps pl x TR)
  have DS := Lib.hid (fun id x => dom_small rs ps id top x TR)
  have DL := Lib.hid (fun id => dom_le rs ps id top TR)
  have HID := Lib.hid hid
  have HI := Lib.hid hi
  clear hz hp TR hid hi
  generalize rs.length = rn at *
  generalize ps.length = pn at *
  intro q
  induction q with
  | zero =>
    intro pl s psl pcap w hq hs HB0 SK0 PN0 SM0
    have e : (ids.map (chF rs top)).drop pl.length = [] := List.drop_eq_nil_of_le (by simp; omega)
    rw [e, seek]
    obtain ⟨q0, q1, q2, q3, q4, q5, q6, q7, f5, f6⟩ := SK0.facts
    have hqq : pl.length = ids.length := by omega
    have PP := Lib.hid (And.intro PN0 SK0)
    clear SK0 PN0 E4' EM' FM DS DL HID HI e
    rw [hqq]
    have HQ := Lib.hid hqq
    clear hqq hq
    generalize ids.length = n at *
    go_enter Try.func21, Try.ntmps21
    go_wp2
    refine bodyPost_ret (v := .tuple #[.slice psl n pcap, .bool true]) (by simp [results, Try.results21, go_sem]) rfl ⟨_, true, rfl, ⟨rfl, ⟨psl, pcap, by rw [HQ.out], PP.out.1⟩, PP.out.2⟩, Onl.refl _ _⟩
  | succ q ih =>
    intro pl s psl pcap w hq hs HB0 SK0 PN0 SM0
    have hmn : pl.length < ids.length := by omega
    obtain ⟨ic, io, rfl, IA⟩ : ∃ c o, sl3 = some ⟨c, o, none⟩ ∧ IntsAt wb c o ids := by
      rcases HI.out with e | h
      · rw [e] at hmn; simp at hmn
      · exact h
    have hic : w.cell? ⟨ic, io + pl.length, none⟩ = some (.int .i64 (ids.getD pl.length 0)) := (HB0.cell IA.1).trans (IA.2 _ hmn)
    have hib : ic < w.heap.size := Nat.lt_of_lt_of_le IA.1 HB0.size
    have hdr : (ids.map (chF rs top)).drop pl.length = chF rs top (ids.getD pl.length 0) :: (ids.map (chF rs top)).drop (pl.length + 1) := by
      rw [List.drop_eq_getElem_cons (by simpa using hmn)]
      simp [hmn]
    have hidm := HID.out (ids.getD pl.length 0) (by rw [List.getD_eq_getElem?_getD, List.getElem?_eq_getElem hmn]; exact List.getElem_mem hmn)
    rw [hdr, seek]
    have E4 := Lib.hid (E4'.out (ids.getD pl.length 0))
    have IH : Hid (∀ (z : Int) (s : Nat) (v : Value) (w : World), s ≤ bud → Below wb.heap.size wb w → SeekAt w kb (.slice sl rn cap) (.slice sl2 pn cap2) (.int .i64 top) (.slice (some ⟨ic, io, none⟩) ids.length cap3) bud s false → (∃ psl pcap, v = .slice psl (pl.length + 1) pcap ∧ PlsN kb w psl (pl ++ [(ids.getD pl.length 0, z)])) → Small (ids.getD pl.length 0, z) →
      Calls Try.prog 21 #[.pointer (some ⟨kb, 0, none⟩), v] w (FromP kb (.slice sl rn cap) (.slice sl2 pn cap2) (.int .i64 top) (.slice (some ⟨ic, io, none⟩) ids.length cap3) bud w (seek (fitB ps) bud ((ids.map (chF rs top)).drop (pl.length + 1)) (pl ++ [(ids.getD pl.length 0, z)]) s))) := fun z s v w h1 h2 h3 h4 h5 => by
      obtain ⟨psl, pcap, rfl, h6⟩ := h4
      have := ih (pl ++ [(ids.getD pl.length 0, z)]) s psl pcap w (by rw [List.length_append]; simp; omega) h1 h2 h3 h6 (fun x hx => by
        rcases List.mem_append.1 hx with h | h
        · exact SM0 x h
        · rw [List.mem_singleton.1 h]; exact h5)
      rw [List.length_append] at this
      exact this
    have CF := Lib.hid (show chF rs top (ids.getD pl.length 0) = (rs.flatMap (domF (ids.getD pl.length 0) top)).map fun c => (ids.getD pl.length 0, c) from rfl)
    have DZ := Lib.hid (fun x hx => DS.out (ids.getD pl.length 0) x hx)
    have DN := DL.out (ids.getD pl.length 0)
    have SK := Lib.hid SK0
    have PN := Lib.hid PN0
    have SM := Lib.hid SM0
    have HB := Lib.hid HB0
    clear ih hdr IA HI HID DS DL E4' SK0 PN0 SM0 HB0 hq
    generalize (ids.map (chF rs top)).drop (pl.length + 1) = CD at *
    generalize hcc : chF rs top (ids.getD pl.length 0) = cs at *
    generalize ids.getD pl.length 0 = id at *
    generalize hzz : rs.flatMap (domF id top) = zs at *
    clear hzz hcc
    generalize hR : tryL (fitB ps) bud (seek (fitB ps) bud CD) cs pl s = R
    have HR : Hid (tryL (fitB ps) bud (seek (fitB ps) bud CD) (cs.drop 0) pl s = R) := hR
    clear hR
    generalize hM : pl.length = m at *
    have HM := Lib.hid hM
    clear hM
    generalize ids.length = n at *
    obtain ⟨q0, q1, q2, q3, q4, q5, q6, q7, f5, f6⟩ := SK.out.facts
    have hmn' : ¬ (m : Int) = (n : Int) := by omega
    have hmn2 : (m : Int) < (n : Int) := by omega
    have hm0 : (0 : Int) ≤ (m : Int) := by omega
    have K4 : Hid (∀ W, Below w.heap.size w W → kb < W.heap.size ∧ W.cell? ⟨kb, 0, none⟩ = some (.slice sl rn cap) ∧ W.cell? ⟨kb, 1, none⟩ = some (.slice sl2 pn cap2) ∧ W.cell? ⟨kb, 2, none⟩ = some (.int .i64 top)) := fun W hW => ⟨Nat.lt_of_lt_of_le q0 hW.size, (hW.cell q0).trans q1, (hW.cell q0).trans q2, (hW.cell q0).trans q3⟩
    go_enter Try.func21, Try.ntmps21
    go_wp2_with fail
    refine wp_region_held_drew (S := fun W => kb < W.heap.size ∧ W.cell? ⟨kb, 0, none⟩ = some (.slice sl rn cap) ∧ W.cell? ⟨kb, 1, none⟩ = some (.slice sl2 pn cap2) ∧ W.cell? ⟨kb, 2, none⟩ = some (.int .i64 top)) (by kernel_rfl) ?_ (fun hHeld => ?_)
    · exact K4.out _ (Below.refl _ _).drew
    refine wpAnyH_take (i := 0) (oi := _) (v := ?_) rfl (by kernel_rfl) (by kernel_rfl) (by kernel_rfl) (fun _ _ _ h => h) (Or.inl ⟨by rfl, ?_⟩) (by assumption) ?_
    rotate_left
    · first | (intro w hSw; (try dsimp only at hSw); go_simp; done) | (intro w hSw; (try dsimp only at hSw); go_simp; with_reducible rfl)
    try simp only [Act.put, List.setIfInBounds_toArray, List.set_cons_zero, List.set_cons_succ, List.getElem_toArray, List.getElem_cons_zero]
    refine wpAnyH_take (i := 1) (oi := _) (v := ?_) rfl (by kernel_rfl) (by kernel_rfl) (by kernel_rfl) (fun _ _ _ h => h) (Or.inl ⟨by rfl, ?_⟩) (by assumption) ?_
    rotate_left
    · first | (intro w hSw; (try dsimp only at hSw); go_simp; done) | (intro w hSw; (try dsimp only at hSw); go_simp; with_reducible rfl)
    try simp only [Act.put, List.setIfInBounds_toArray, List.set_cons_zero, List.set_cons_succ, List.getElem_toArray, List.getElem_cons_succ, List.getElem_cons_zero]
    refine wpAnyH_take (i := 2) (oi := _) (v := ?_) rfl (by kernel_rfl) (by kernel_rfl) (by kernel_rfl) (fun _ _ _ h => h) (Or.inl ⟨by rfl, ?_⟩) (by assumption) ?_
    rotate_left
    · first | (intro w hSw; (try dsimp only at hSw); go_simp; done) | (intro w hSw; (try dsimp only at hSw); go_simp; with_reducible rfl)
    try simp only [Act.put, List.setIfInBounds_toArray, List.set_cons_zero, List.set_cons_succ, List.getElem_toArray, List.getElem_cons_succ, List.getElem_cons_zero]
    refine wpAnyH_take (i := 3) (oi := _) (v := ?_) rfl (by kernel_rfl) (by kernel_rfl) (by kernel_rfl) (fun _ _ _ h => h) (Or.inl ⟨by rfl, ?_⟩) (by assumption) ?_
    rotate_left
    · first | (intro w hSw; (try dsimp only at hSw); go_simp; done) | (intro w hSw; (try dsimp only at hSw); go_simp; with_reducible rfl)
    try simp only [Act.put, List.setIfInBounds_toArray, List.set_cons_zero, List.set_cons_succ, List.getElem_toArray, List.getElem_cons_succ, List.getElem_cons_zero]
    refine wpAnyH_take (i := 4) (oi := _) (v := ?_) rfl (by kernel_rfl) (by kernel_rfl) (by kernel_rfl) (fun _ _ _ h => h) (Or.inl ⟨by rfl, ?_⟩) (by assumption) ?_
    rotate_left
    · first | (intro w hSw; (try dsimp only at hSw); go_simp; done) | (intro w hSw; (try dsimp only at hSw); go_simp; with_reducible rfl)
    try simp only [Act.put, List.setIfInBounds_toArray, List.set_cons_zero, List.set_cons_succ, List.getElem_toArray, List.getElem_cons_succ, List.getElem_cons_zero]
    refine wpAnyH_take (i := 5) (oi := _) (v := ?_) rfl (by kernel_rfl) (by kernel_rfl) (by kernel_rfl) (fun _ _ _ h => h) (Or.inl ⟨by rfl, ?_⟩) (by assumption) ?_
    rotate_left
    · first | (intro w hSw; (try dsimp only at hSw); go_simp; done) | (intro w hSw; (try dsimp only at hSw); go_simp; with_reducible rfl)
    try simp only [Act.put, List.setIfInBounds_toArray, List.set_cons_zero, List.set_cons_succ, List.getElem_toArray, List.getElem_cons_succ, List.getElem_cons_zero]
    refine wpAnyH_take (i := 6) (oi := _) (v := ?_) rfl (by kernel_rfl) (by kernel_rfl) (by kernel_rfl) (fun _ _ _ h => h) (Or.inl ⟨by rfl, ?_⟩) (by assumption) ?_
    rotate_left
    · first | (intro w hSw; (try dsimp only at hSw); go_simp; done) | (intro w hSw; (try dsimp only at hSw); go_simp; with_reducible rfl)
    try simp only [Act.put, List.setIfInBounds_toArray, List.set_cons_zero, List.set_cons_succ, List.getElem_toArray, List.getElem_cons_succ, List.getElem_cons_zero]
    refine wpAnyH_take (i := 7) (oi := _) (v := ?_) rfl (by kernel_rfl) (by kernel_rfl) (by kernel_rfl) (fun _ _ _ h => h) (Or.inl ⟨by rfl, ?_⟩) (by assumption) ?_
    rotate_left
    · first | (intro w hSw; (try dsimp only at hSw); go_simp; done) | (intro w hSw; (try dsimp only at hSw); go_simp; with_reducible rfl)
    try simp only [Act.put, List.setIfInBounds_toArray, List.set_cons_zero, List.set_cons_succ, List.getElem_toArray, List.getElem_cons_succ, List.getElem_cons_zero]
    refine wpAnyH_take (i := 8) (oi := _) (v := ?_) rfl (by kernel_rfl) (by kernel_rfl) (by kernel_rfl) (fun _ _ _ h => h) (Or.inl ⟨by rfl, ?_⟩) (by assumption) ?_
    rotate_left
    · first | (intro w hSw; (try dsimp only at hSw); go_simp; done) | (intro w hSw; (try dsimp only at hSw); go_simp; with_reducible rfl)
    try simp only [Act.put, List.setIfInBounds_toArray, List.set_cons_zero, List.set_cons_succ, List.getElem_toArray, List.getElem_cons_succ, List.getElem_cons_zero]
    refine wpAnyH_ready (rs := [9]) (by kernel_rfl) (by simp) ?_
    refine AllReadyH.cons rfl (fun K hK => ?_) AllReadyH.nil
    go_simp
    go_wp2_with (go_at_call 31; refine (E4.out _ HB.out.drew).mono ?_; rintro e w1 ⟨v1, rfl, o1, b1⟩)
    have F1 : Hid (Below w.heap.size w w1) := bT ((Below.refl w.heap.size w).drew) b1
    have O1 := Lib.hid o1
    clear b1 o1
    refine hK.out _ _ ?_ (fun hHeld => ?_)
    · exact K4.out _ F1.out
    clear hK K
    refine wpAnyH_take (i := 10) (oi := _) (v := ?_) rfl (by kernel_rfl) (by kernel_rfl) (by kernel_rfl) (fun _ _ _ h => h) (Or.inl ⟨by rfl, ?_⟩) (by assumption) ?_
    rotate_left
    · first | (intro w hSw; (try dsimp only at hSw); go_simp; done) | (intro w hSw; (try dsimp only at hSw); go_simp; with_reducible rfl)
    try simp only [Act.put, List.setIfInBounds_toArray, List.set_cons_zero, List.set_cons_succ, List.getElem_toArray, List.getElem_cons_succ, List.getElem_cons_zero]
    refine wpAnyH_done (by kernel_rfl) ?_ _
    obtain ⟨dsl, dcap, rfl, di0⟩ := own_ints O1.out
    have DB : Hid (∀ c o, dsl = some ⟨c, o, none⟩ → c ≠ kb) := fun c o e => by
      subst e
      rcases O1.out.2 with ⟨hv, _⟩ | ⟨g, cp, cur, hv, hb, _⟩
      · cases hv
      · cases hv
        have h2 : w.heap.size ≤ c := hb
        omega
    have DI := Lib.hid di0
    have SK1 := Lib.hid (SK.out.of F1.out)
    have B1 := Lib.hid (bT HB.out F1.out)
    have PN1 := Lib.hid (PN.out.onl (Onl.of_below F1.out))
    have N1 : Hid (Onl kb w w1) := Onl.of_below F1.out
    have hcl : Hid (cs.length = zs.length) := by show _ = _; rw [CF.out, List.length_map]
    clear di0 O1 SK PN HB K4 E4 F1 q0 q1 q2 q3 q4 q5 q6 q7 f5 f6
    generalize hZN : zs.length = zn at *
    have HZN := Lib.hid hZN
    clear hZN
    go_wp2_with fail
    go_loopw [8] (fun v wr => ∃ (i s' : Nat), v = .int .i64 i ∧ i ≤ zn ∧ s' ≤ bud ∧ Hid (tryL (fitB ps) bud (seek (fitB ps) bud CD) (cs.drop i) pl s' = R) ∧ Hid (SeekAt wr kb (.slice sl rn cap) (.slice sl2 pn cap2) (.int .i64 top) (.slice (some ⟨ic, io, none⟩) n cap3) bud s' false) ∧ Hid (Onl kb w1 wr)) (fun v _ => zn - (intOf v).toNat)
    case atStart => exact ⟨0, s, rfl, Nat.zero_le _, hs, HR, SK1, Onl.refl _ _⟩
    case round =>
      obtain ⟨i, s', rfl, hi, hs', HR2, SK2, HON⟩ := hrel
      clear HR SK1
      have hi0 : (0 : Int) ≤ (i : Int) := by omega
      obtain ⟨q0, q1, q2, q3, q4, q5, q6, q7, f5, f6⟩ := SK2.out.facts
      by_cases g1 : i < zn
      · have g1' : (i : Int) < (zn : Int) := by omega
        have hlt : i < zs.length := by rw [HZN.out]; exact g1
        have hltc : i < cs.length := by rw [hcl.out]; exact g1
        obtain ⟨dc, di, rfl, DA⟩ : ∃ c o, dsl = some ⟨c, o, none⟩ ∧ IntsAt w1 c o zs := by
          rcases DI.out with e | h
          · rw [e] at hlt; simp at hlt
          · exact h
        have hdk : dc ≠ kb := DB.out dc di rfl
        have hdl : dc < w1.heap.size := DA.1
        have hdc : wr.cell? ⟨dc, di + i, none⟩ = some (.int .i64 (zs.getD i 0)) := (HON.out.cell hdl hdk).trans (DA.2 i hlt)
        have ZS := DZ.out (zs.getD i 0) (by rw [List.getD_eq_getElem?_getD, List.getElem?_eq_getElem hlt]; exact List.getElem_mem hlt)
        have CI : Hid (cs[i] = (id, zs.getD i 0)) := by
          show _ = _
          simp only [CF.out, List.getElem_map]
          simp [hlt]
        have K8 : Hid (kb < wr.heap.size ∧ wr.cell? ⟨kb, 4, none⟩ = some (.int .i64 (bud : Nat)) ∧ wr.cell? ⟨kb, 5, none⟩ = some (.int .i64 (s' : Nat))) := ⟨q0, q5, q6⟩
        by_cases g2 : s' = bud
        · subst g2
          have RO : Hid (R = .out s') := by
            show R = _
            rw [← HR2.out]
            exact try_out _ _ _ _ _ _ hltc
          have US := Lib.hid SK2.out.used
          have NN := Lib.hid ((N1.out.trans HON.out).setCell 6 (.bool true))
          clear HR2 SK2 HON CI ZS hdc
          go_wp2_with fail
          refine wp_region_held_drew (S := fun W => kb < W.heap.size ∧ W.cell? ⟨kb, 4, none⟩ = some (.int .i64 (s' : Nat)) ∧ W.cell? ⟨kb, 5, none⟩ = some (.int .i64 (s' : Nat))) (by kernel_rfl) ?_ (fun hHeld => ?_)
          · exact K8.out
          refine wpAnyH_take (i := 0) (oi := _) (v := ?_) rfl (by kernel_rfl) (by kernel_rfl) (by kernel_rfl) (fun _ _ _ h => h) (Or.inl ⟨by rfl, ?_⟩) (by assumption) ?_
          rotate_left
          · first | (intro w hSw; (try dsimp only at hSw); go_simp; done) | (intro w hSw; (try dsimp only at hSw); go_simp; with_reducible rfl)
          try simp only [Act.put, List.setIfInBounds_toArray, List.set_cons_zero, List.set_cons_succ, List.getElem_toArray, List.getElem_cons_zero]
          refine wpAnyH_take (i := 1) (oi := _) (v := ?_) rfl (by kernel_rfl) (by kernel_rfl) (by kernel_rfl) (fun _ _ _ h => h) (Or.inl ⟨by rfl, ?_⟩) (by assumption) ?_
          rotate_left
          · first | (intro w hSw; (try dsimp only at hSw); go_simp; done) | (intro w hSw; (try dsimp only at hSw); go_simp; with_reducible rfl)
          try simp only [Act.put, List.setIfInBounds_toArray, List.set_cons_zero, List.set_cons_succ, List.getElem_toArray, List.getElem_cons_succ, List.getElem_cons_zero]
          refine wpAnyH_take (i := 2) (oi := _) (v := ?_) rfl (by kernel_rfl) (by kernel_rfl) (by kernel_rfl) (fun _ _ _ h => h) (Or.inl ⟨by rfl, ?_⟩) (by assumption) ?_
          rotate_left
          · first | (intro w hSw; (try dsimp only at hSw); go_simp; done) | (intro w hSw; (try dsimp only at hSw); go_simp; with_reducible rfl)
          try simp only [Act.put, List.setIfInBounds_toArray, List.set_cons_zero, List.set_cons_succ, List.getElem_toArray, List.getElem_cons_succ, List.getElem_cons_zero]
          refine wpAnyH_take (i := 3) (oi := _) (v := ?_) rfl (by kernel_rfl) (by kernel_rfl) (by kernel_rfl) (fun _ _ _ h => h) (Or.inl ⟨by rfl, ?_⟩) (by assumption) ?_
          rotate_left
          · first | (intro w hSw; (try dsimp only at hSw); go_simp; done) | (intro w hSw; (try dsimp only at hSw); go_simp; with_reducible rfl)
          try simp only [Act.put, List.setIfInBounds_toArray, List.set_cons_zero, List.set_cons_succ, List.getElem_toArray, List.getElem_cons_succ, List.getElem_cons_zero]
          refine wpAnyH_take (i := 4) (oi := _) (v := ?_) rfl (by kernel_rfl) (by kernel_rfl) (by kernel_rfl) (fun _ _ _ h => h) (Or.inl ⟨by rfl, ?_⟩) (by assumption) ?_
          rotate_left
          · first | (intro w hSw; (try dsimp only at hSw); go_simp; done) | (intro w hSw; (try dsimp only at hSw); go_simp; with_reducible rfl)
          try simp only [Act.put, List.setIfInBounds_toArray, List.set_cons_zero, List.set_cons_succ, List.getElem_toArray, List.getElem_cons_succ, List.getElem_cons_zero]
          refine wpAnyH_take (i := 5) (oi := _) (v := ?_) rfl (by kernel_rfl) (by kernel_rfl) (by kernel_rfl) (fun _ _ _ h => h) (Or.inl ⟨by rfl, ?_⟩) (by assumption) ?_
          rotate_left
          · first | (intro w hSw; (try dsimp only at hSw); go_simp; done) | (intro w hSw; (try dsimp only at hSw); go_simp; with_reducible rfl)
          try simp only [Act.put, List.setIfInBounds_toArray, List.set_cons_zero, List.set_cons_succ, List.getElem_toArray, List.getElem_cons_succ, List.getElem_cons_zero]
          refine wpAnyH_take (i := 6) (oi := _) (v := ?_) rfl (by kernel_rfl) (by kernel_rfl) (by kernel_rfl) (fun _ _ _ h => h) (Or.inl ⟨by rfl, ?_⟩) (by assumption) ?_
          rotate_left
          · first | (intro w hSw; (try dsimp only at hSw); go_simp; done) | (intro w hSw; (try dsimp only at hSw); go_simp; with_reducible rfl)
          try simp only [Act.put, List.setIfInBounds_toArray, List.set_cons_zero, List.set_cons_succ, List.getElem_toArray, List.getElem_cons_succ, List.getElem_cons_zero]
          refine wpAnyH_take (i := 7) (oi := _) (v := ?_) rfl (by kernel_rfl) (by kernel_rfl) (by kernel_rfl) (fun _ _ _ h => h) (Or.inl ⟨by rfl, ?_⟩) (by assumption) ?_
          rotate_left
          · first | (intro w hSw; (try dsimp only at hSw); go_simp; done) | (intro w hSw; (try dsimp only at hSw); go_simp; with_reducible rfl)
          try simp only [Act.put, List.setIfInBounds_toArray, List.set_cons_zero, List.set_cons_succ, List.getElem_toArray, List.getElem_cons_succ, List.getElem_cons_zero]
          refine wpAnyH_take (i := 8) (oi := _) (v := ?_) rfl (by kernel_rfl) (by kernel_rfl) (by kernel_rfl) (fun _ _ _ h => h) (Or.inl ⟨by rfl, ?_⟩) (by assumption) ?_
          rotate_left
          · first | (intro w hSw; (try dsimp only at hSw); go_simp; done) | (intro w hSw; (try dsimp only at hSw); go_simp; with_reducible rfl)
          try simp only [Act.put, List.setIfInBounds_toArray, List.set_cons_zero, List.set_cons_succ, List.getElem_toArray, List.getElem_cons_succ, List.getElem_cons_zero]
          refine wpAnyH_done (by kernel_rfl) ?_ _
          go_wp2
          refine bodyPost_ret (v := .tuple #[.slice psl m pcap, .bool false]) (by simp [results, Try.results21, go_sem]) rfl ⟨_, false, rfl, by rw [RO.out]; exact ⟨rfl, US.out⟩, NN.out.drew⟩
        · have g2' : ¬ (s' : Int) = (bud : Int) := by omega
          have hsb : ((s' : Int) == (bud : Int)) = false := by simpa using g2'
          generalize hz : zs.getD i 0 = z at *
          have SS := Lib.hid SK2.out.step
          have NS := Lib.hid (HON.out.setCell 5 (.int .i64 ((s' : Int) + 1)))
          have TN : Hid (fitB ps pl (id, z) = false → tryL (fitB ps) bud (seek (fitB ps) bud CD) (cs.drop (i + 1)) pl (s' + 1) = R) := fun hf => by
            rw [← HR2.out]
            exact (try_no _ _ _ _ _ _ _ hltc g2 (by rw [CI.out]; exact hf)).symm
          have TY0 : Hid (fitB ps pl (id, z) = true → R = orR (seek (fitB ps) bud CD (pl ++ [(id, z)]) (s' + 1)) (fun s2 => tryL (fitB ps) bud (seek (fitB ps) bud CD) (cs.drop (i + 1)) pl s2)) := fun hf => by
            rw [← HR2.out, try_yes _ _ _ _ _ _ _ hltc g2 (by rw [CI.out]; exact hf), CI.out]
            cases seek (fitB ps) bud CD (pl ++ [(id, z)]) (s' + 1) <;> rfl
          have hda : w1.cell? ⟨dc, di + i, none⟩ = some (.int .i64 z) := by rw [← hz]; exact DA.2 i hlt
          clear hz HR2 CI hlt hltc hdc DA SK2
          go_wp2_with fail
          refine wp_region_held_drew (S := fun W => kb < W.heap.size ∧ W.cell? ⟨kb, 4, none⟩ = some (.int .i64 (bud : Nat)) ∧ W.cell? ⟨kb, 5, none⟩ = some (.int .i64 (s' : Nat))) (by kernel_rfl) ?_ (fun hHeld => ?_)
          · exact K8.out
          refine wpAnyH_take (i := 0) (oi := _) (v := ?_) rfl (by kernel_rfl) (by kernel_rfl) (by kernel_rfl) (fun _ _ _ h => h) (Or.inl ⟨by rfl, ?_⟩) (by assumption) ?_
          rotate_left
          · first | (intro w hSw; (try dsimp only at hSw); go_simp; done) | (intro w hSw; (try dsimp only at hSw); go_simp; with_reducible rfl)
          try simp only [Act.put, List.setIfInBounds_toArray, List.set_cons_zero, List.set_cons_succ, List.getElem_toArray, List.getElem_cons_zero]
          refine wpAnyH_take (i := 1) (oi := _) (v := ?_) rfl (by kernel_rfl) (by kernel_rfl) (by kernel_rfl) (fun _ _ _ h => h) (Or.inl ⟨by rfl, ?_⟩) (by assumption) ?_
          rotate_left
          · first | (intro w hSw; (try dsimp only at hSw); go_simp; done) | (intro w hSw; (try dsimp only at hSw); go_simp; with_reducible rfl)
          try simp only [Act.put, List.setIfInBounds_toArray, List.set_cons_zero, List.set_cons_succ, List.getElem_toArray, List.getElem_cons_succ, List.getElem_cons_zero]
          refine wpAnyH_take (i := 2) (oi := _) (v := ?_) rfl (by kernel_rfl) (by kernel_rfl) (by kernel_rfl) (fun _ _ _ h => h) (Or.inl ⟨by rfl, ?_⟩) (by assumption) ?_
          rotate_left
          · first | (intro w hSw; (try dsimp only at hSw); go_simp; done) | (intro w hSw; (try dsimp only at hSw); go_simp; with_reducible rfl)
          try simp only [Act.put, List.setIfInBounds_toArray, List.set_cons_zero, List.set_cons_succ, List.getElem_toArray, List.getElem_cons_succ, List.getElem_cons_zero]
          refine wpAnyH_take (i := 3) (oi := _) (v := ?_) rfl (by kernel_rfl) (by kernel_rfl) (by kernel_rfl) (fun _ _ _ h => h) (Or.inl ⟨by rfl, ?_⟩) (by assumption) ?_
          rotate_left
          · first | (intro w hSw; (try dsimp only at hSw); go_simp; done) | (intro w hSw; (try dsimp only at hSw); go_simp; with_reducible rfl)
          try simp only [Act.put, List.setIfInBounds_toArray, List.set_cons_zero, List.set_cons_succ, List.getElem_toArray, List.getElem_cons_succ, List.getElem_cons_zero]
          refine wpAnyH_take (i := 4) (oi := _) (v := ?_) rfl (by kernel_rfl) (by kernel_rfl) (by kernel_rfl) (fun _ _ _ h => h) (Or.inl ⟨by rfl, ?_⟩) (by assumption) ?_
          rotate_left
          · first | (intro w hSw; (try dsimp only at hSw); go_simp; done) | (intro w hSw; (try dsimp only at hSw); go_simp; with_reducible rfl)
          try simp only [Act.put, List.setIfInBounds_toArray, List.set_cons_zero, List.set_cons_succ, List.getElem_toArray, List.getElem_cons_succ, List.getElem_cons_zero]
          refine wpAnyH_take (i := 5) (oi := _) (v := ?_) rfl (by kernel_rfl) (by kernel_rfl) (by kernel_rfl) (fun _ _ _ h => h) (Or.inl ⟨by rfl, ?_⟩) (by assumption) ?_
          rotate_left
          · first | (intro w hSw; (try dsimp only at hSw); go_simp; done) | (intro w hSw; (try dsimp only at hSw); go_simp; with_reducible rfl)
          try simp only [Act.put, List.setIfInBounds_toArray, List.set_cons_zero, List.set_cons_succ, List.getElem_toArray, List.getElem_cons_succ, List.getElem_cons_zero]
          refine wpAnyH_take (i := 6) (oi := _) (v := ?_) rfl (by kernel_rfl) (by kernel_rfl) (by kernel_rfl) (fun _ _ _ h => h) (Or.inl ⟨by rfl, ?_⟩) (by assumption) ?_
          rotate_left
          · first | (intro w hSw; (try dsimp only at hSw); go_simp; done) | (intro w hSw; (try dsimp only at hSw); go_simp; with_reducible rfl)
          try simp only [Act.put, List.setIfInBounds_toArray, List.set_cons_zero, List.set_cons_succ, List.getElem_toArray, List.getElem_cons_succ, List.getElem_cons_zero]
          refine wpAnyH_take (i := 7) (oi := _) (v := ?_) rfl (by kernel_rfl) (by kernel_rfl) (by kernel_rfl) (fun _ _ _ h => h) (Or.inl ⟨by rfl, ?_⟩) (by assumption) ?_
          rotate_left
          · first | (intro w hSw; (try dsimp only at hSw); go_simp; done) | (intro w hSw; (try dsimp only at hSw); go_simp; with_reducible rfl)
          try simp only [Act.put, List.setIfInBounds_toArray, List.set_cons_zero, List.set_cons_succ, List.getElem_toArray, List.getElem_cons_succ, List.getElem_cons_zero]
          refine wpAnyH_take (i := 8) (oi := _) (v := ?_) rfl (by kernel_rfl) (by kernel_rfl) (by kernel_rfl) (fun _ _ _ h => h) (Or.inl ⟨by rfl, ?_⟩) (by assumption) ?_
          rotate_left
          · first | (intro w hSw; (try dsimp only at hSw); go_simp; done) | (intro w hSw; (try dsimp only at hSw); go_simp; with_reducible rfl)
          try simp only [Act.put, List.setIfInBounds_toArray, List.set_cons_zero, List.set_cons_succ, List.getElem_toArray, List.getElem_cons_succ, List.getElem_cons_zero]
          refine wpAnyH_done (by kernel_rfl) ?_ _
          clear K8 hsb
          go_wp2_with fail
          obtain ⟨w4, e4⟩ : ∃ W, W = (wr.setCell ⟨kb, 5, none⟩ (.int .i64 ((s' : Int) + 1))).drew := ⟨_, rfl⟩
          rw [← e4]
          have S4 : Hid (SeekAt w4 kb (.slice sl rn cap) (.slice sl2 pn cap2) (.int .i64 top) (.slice (some ⟨ic, io, none⟩) n cap3) bud (s' + 1) false) := by rw [e4]; exact SS.out
          have N4 : Hid (Onl kb w1 w4) := by rw [e4]; exact Lib.hid NS.out.drew
          clear SS NS q0 q1 q2 q3 q4 q5 q6 q7 f5 f6 HON e4
          have B4 := Lib.hid (Onl.below B1.out hkb N4.out)
          have PN4 := Lib.hid (PN1.out.onl N4.out)
          have hpl4 : pl.length ≤ 400 := by rw [HM.out]; omega
          go_loopw [9, 10] (fun v k wq => ∃ j : Nat, v = .bool ((pl.take j).all fun o => mayL ps o.1 o.2 id z) ∧ k = .int .i64 j ∧ j ≤ m ∧ Hid (Below w4.heap.size w4 wq)) (fun _ k _ => m - (intOf k).toNat)
          case atStart => exact ⟨0, by simp, rfl, Nat.zero_le _, Below.refl _ _⟩
          case round =>
            obtain ⟨j, rfl, rfl, hj, HJ⟩ := hrel
            have hj0 : (0 : Int) ≤ (j : Int) := by omega
            have S5 := Lib.hid (S4.out.of HJ.out)
            have N5 := Lib.hid (N4.out.trans (Onl.of_below HJ.out))
            obtain ⟨q0, q1, q2, q3, q4, q5, q6, q7, f5, f6⟩ := S5.out.facts
            have hdl5 : dc < wr.heap.size := Nat.lt_of_lt_of_le hdl N5.out.size
            have hdc5 : wr.cell? ⟨dc, di + i, none⟩ = some (.int .i64 z) := (N5.out.cell hdl hdk).trans hda
            by_cases g3 : j < m
            · have g3' : (j : Int) < (m : Int) := by omega
              have hjl : j < pl.length := by rw [HM.out]; exact g3
              obtain ⟨c, o, rfl, PA⟩ : ∃ c o, psl = some ⟨c, o, none⟩ ∧ PlAt w4 c o pl := by
                rcases PN4.out with e | ⟨c, o, e, h, _⟩
                · rw [e] at hjl; simp at hjl
                · exact ⟨c, o, e, h⟩
              obtain ⟨c0, c1⟩ := (PA.below HJ.out).cell j hjl
              have pcl := (PA.below HJ.out).lt
              have SP := SM.out pl[j] (List.getElem_mem hjl)
              have AT := Lib.hid (all_take (fun o => mayL ps o.1 o.2 id z) pl j hjl)
              obtain ⟨pa, pc, hp⟩ : ∃ x y, pl[j] = (x, y) := ⟨_, _, rfl⟩
              rw [hp] at c0 c1 SP AT
              dsimp only at c0 c1 AT
              have EM := Lib.hid (fun W hW => EM'.out pa pc id z W SP.2 ⟨by omega, by omega⟩ hW)
              have DJ := Lib.hid (bT B4.out HJ.out)
              have KJ : Hid (∀ W, Below wr.heap.size wr W → kb < W.heap.size ∧ W.cell? ⟨kb, 0, none⟩ = some (.slice sl rn cap) ∧ W.cell? ⟨kb, 1, none⟩ = some (.slice sl2 pn cap2) ∧ c < W.heap.size ∧ W.cell? ⟨c, o + j * 2, none⟩ = some (.int .i64 pa) ∧ W.cell? ⟨c, o + j * 2 + 1, none⟩ = some (.int .i64 pc) ∧ dc < W.heap.size ∧ W.cell? ⟨dc, di + i, none⟩ = some (.int .i64 z)) := fun W hW => ⟨Nat.lt_of_lt_of_le q0 hW.size, (hW.cell q0).trans q1, (hW.cell q0).trans q2, Nat.lt_of_lt_of_le pcl hW.size, (hW.cell pcl).trans c0, (hW.cell pcl).trans c1, Nat.lt_of_lt_of_le hdl5 hW.size, (hW.cell hdl5).trans hdc5⟩
              generalize mayL ps pa pc id z = mb at *
              clear hp hjl PA SP
              generalize (pl.take j).all (fun o => mayL ps o.1 o.2 id z) = b1 at *
              cases b1 with
              | true =>
                go_wp2_with fail
                refine wp_region_held_drew (S := fun W => kb < W.heap.size ∧ W.cell? ⟨kb, 0, none⟩ = some (.slice sl rn cap) ∧ W.cell? ⟨kb, 1, none⟩ = some (.slice sl2 pn cap2) ∧ c < W.heap.size ∧ W.cell? ⟨c, o + j * 2, none⟩ = some (.int .i64 pa) ∧ W.cell? ⟨c, o + j * 2 + 1, none⟩ = some (.int .i64 pc) ∧ dc < W.heap.size ∧ W.cell? ⟨dc, di + i, none⟩ = some (.int .i64 z)) (by kernel_rfl) ?_ (fun hHeld => ?_)
                · exact KJ.out _ (Below.refl _ _).drew
                refine wpAnyH_take (i := 0) (oi := _) (v := ?_) rfl (by kernel_rfl) (by kernel_rfl) (by kernel_rfl) (fun _ _ _ h => h) (Or.inl ⟨by rfl, ?_⟩) (by assumption) ?_
                rotate_left
                · first | (intro w hSw; (try dsimp only at hSw); go_simp; done) | (intro w hSw; (try dsimp only at hSw); go_simp; with_reducible rfl)
                try simp only [Act.put, List.setIfInBounds_toArray, List.set_cons_zero, List.set_cons_succ, List.getElem_toArray, List.getElem_cons_zero]
                refine wpAnyH_take (i := 1) (oi := _) (v := ?_) rfl (by kernel_rfl) (by kernel_rfl) (by kernel_rfl) (fun _ _ _ h => h) (Or.inl ⟨by rfl, ?_⟩) (by assumption) ?_
                rotate_left
                · first | (intro w hSw; (try dsimp only at hSw); go_simp; done) | (intro w hSw; (try dsimp only at hSw); go_simp; with_reducible rfl)
                try simp only [Act.put, List.setIfInBounds_toArray, List.set_cons_zero, List.set_cons_succ, List.getElem_toArray, List.getElem_cons_succ, List.getElem_cons_zero]
                refine wpAnyH_take (i := 2) (oi := _) (v := ?_) rfl (by kernel_rfl) (by kernel_rfl) (by kernel_rfl) (fun _ _ _ h => h) (Or.inl ⟨by rfl, ?_⟩) (by assumption) ?_
                rotate_left
                · first | (intro w hSw; (try dsimp only at hSw); go_simp; done) | (intro w hSw; (try dsimp only at hSw); go_simp; with_reducible rfl)
                try simp only [Act.put, List.setIfInBounds_toArray, List.set_cons_zero, List.set_cons_succ, List.getElem_toArray, List.getElem_cons_succ, List.getElem_cons_zero]
                refine wpAnyH_take (i := 3) (oi := _) (v := ?_) rfl (by kernel_rfl) (by kernel_rfl) (by kernel_rfl) (fun _ _ _ h => h) (Or.inl ⟨by rfl, ?_⟩) (by assumption) ?_
                rotate_left
                · first | (intro w hSw; (try dsimp only at hSw); go_simp; done) | (intro w hSw; (try dsimp only at hSw); go_simp; with_reducible rfl)
                try simp only [Act.put, List.setIfInBounds_toArray, List.set_cons_zero, List.set_cons_succ, List.getElem_toArray, List.getElem_cons_succ, List.getElem_cons_zero]
                refine wpAnyH_take (i := 4) (oi := _) (v := ?_) rfl (by kernel_rfl) (by kernel_rfl) (by kernel_rfl) (fun _ _ _ h => h) (Or.inl ⟨by rfl, ?_⟩) (by assumption) ?_
                rotate_left
                · first | (intro w hSw; (try dsimp only at hSw); go_simp; done) | (intro w hSw; (try dsimp only at hSw); go_simp; with_reducible rfl)
                try simp only [Act.put, List.setIfInBounds_toArray, List.set_cons_zero, List.set_cons_succ, List.getElem_toArray, List.getElem_cons_succ, List.getElem_cons_zero]
                refine wpAnyH_take (i := 5) (oi := _) (v := ?_) rfl (by kernel_rfl) (by kernel_rfl) (by kernel_rfl) (fun _ _ _ h => h) (Or.inl ⟨by rfl, ?_⟩) (by assumption) ?_
                rotate_left
                · first | (intro w hSw; (try dsimp only at hSw); go_simp; done) | (intro w hSw; (try dsimp only at hSw); go_simp; with_reducible rfl)
                try simp only [Act.put, List.setIfInBounds_toArray, List.set_cons_zero, List.set_cons_succ, List.getElem_toArray, List.getElem_cons_succ, List.getElem_cons_zero]
                refine wpAnyH_take (i := 6) (oi := _) (v := ?_) rfl (by kernel_rfl) (by kernel_rfl) (by kernel_rfl) (fun _ _ _ h => h) (Or.inl ⟨by rfl, ?_⟩) (by assumption) ?_
                rotate_left
                · first | (intro w hSw; (try dsimp only at hSw); go_simp; done) | (intro w hSw; (try dsimp only at hSw); go_simp; with_reducible rfl)
                try simp only [Act.put, List.setIfInBounds_toArray, List.set_cons_zero, List.set_cons_succ, List.getElem_toArray, List.getElem_cons_succ, List.getElem_cons_zero]
                refine wpAnyH_take (i := 7) (oi := _) (v := ?_) rfl (by kernel_rfl) (by kernel_rfl) (by kernel_rfl) (fun _ _ _ h => h) (Or.inl ⟨by rfl, ?_⟩) (by assumption) ?_
                rotate_left
                · first | (intro w hSw; (try dsimp only at hSw); go_simp; done) | (intro w hSw; (try dsimp only at hSw); go_simp; with_reducible rfl)
                try simp only [Act.put, List.setIfInBounds_toArray, List.set_cons_zero, List.set_cons_succ, List.getElem_toArray, List.getElem_cons_succ, List.getElem_cons_zero]
                refine wpAnyH_take (i := 8) (oi := _) (v := ?_) rfl (by kernel_rfl) (by kernel_rfl) (by kernel_rfl) (fun _ _ _ h => h) (Or.inl ⟨by rfl, ?_⟩) (by assumption) ?_
                rotate_left
                · first | (intro w hSw; (try dsimp only at hSw); go_simp; done) | (intro w hSw; (try dsimp only at hSw); go_simp; with_reducible rfl)
                try simp only [Act.put, List.setIfInBounds_toArray, List.set_cons_zero, List.set_cons_succ, List.getElem_toArray, List.getElem_cons_succ, List.getElem_cons_zero]
                refine wpAnyH_take (i := 9) (oi := _) (v := ?_) rfl (by kernel_rfl) (by kernel_rfl) (by kernel_rfl) (fun _ _ _ h => h) (Or.inl ⟨by rfl, ?_⟩) (by assumption) ?_
                rotate_left
                · first | (intro w hSw; (try dsimp only at hSw); go_simp; done) | (intro w hSw; (try dsimp only at hSw); go_simp; with_reducible rfl)
                try simp only [Act.put, List.setIfInBounds_toArray, List.set_cons_zero, List.set_cons_succ, List.getElem_toArray, List.getElem_cons_succ, List.getElem_cons_zero]
                refine wpAnyH_take (i := 10) (oi := _) (v := ?_) rfl (by kernel_rfl) (by kernel_rfl) (by kernel_rfl) (fun _ _ _ h => h) (Or.inl ⟨by rfl, ?_⟩) (by assumption) ?_
                rotate_left
                · first | (intro w hSw; (try dsimp only at hSw); go_simp; done) | (intro w hSw; (try dsimp only at hSw); go_simp; with_reducible rfl)
                try simp only [Act.put, List.setIfInBounds_toArray, List.set_cons_zero, List.set_cons_succ, List.getElem_toArray, List.getElem_cons_succ, List.getElem_cons_zero]
                refine wpAnyH_take (i := 11) (oi := _) (v := ?_) rfl (by kernel_rfl) (by kernel_rfl) (by kernel_rfl) (fun _ _ _ h => h) (Or.inl ⟨by rfl, ?_⟩) (by assumption) ?_
                rotate_left
                · first | (intro w hSw; (try dsimp only at hSw); go_simp; done) | (intro w hSw; (try dsimp only at hSw); go_simp; with_reducible rfl)
                try simp only [Act.put, List.setIfInBounds_toArray, List.set_cons_zero, List.set_cons_succ, List.getElem_toArray, List.getElem_cons_succ, List.getElem_cons_zero]
                refine wpAnyH_take (i := 12) (oi := _) (v := ?_) rfl (by kernel_rfl) (by kernel_rfl) (by kernel_rfl) (fun _ _ _ h => h) (Or.inl ⟨by rfl, ?_⟩) (by assumption) ?_
                rotate_left
                · first | (intro w hSw; (try dsimp only at hSw); go_simp; done) | (intro w hSw; (try dsimp only at hSw); go_simp; with_reducible rfl)
                try simp only [Act.put, List.setIfInBounds_toArray, List.set_cons_zero, List.set_cons_succ, List.getElem_toArray, List.getElem_cons_succ, List.getElem_cons_zero]
                refine wpAnyH_take (i := 13) (oi := _) (v := ?_) rfl (by kernel_rfl) (by kernel_rfl) (by kernel_rfl) (fun _ _ _ h => h) (Or.inl ⟨by rfl, ?_⟩) (by assumption) ?_
                rotate_left
                · first | (intro w hSw; (try dsimp only at hSw); go_simp; done) | (intro w hSw; (try dsimp only at hSw); go_simp; with_reducible rfl)
                try simp only [Act.put, List.setIfInBounds_toArray, List.set_cons_zero, List.set_cons_succ, List.getElem_toArray, List.getElem_cons_succ, List.getElem_cons_zero]
                refine wpAnyH_take (i := 14) (oi := _) (v := ?_) rfl (by kernel_rfl) (by kernel_rfl) (by kernel_rfl) (fun _ _ _ h => h) (Or.inl ⟨by rfl, ?_⟩) (by assumption) ?_
                rotate_left
                · first | (intro w hSw; (try dsimp only at hSw); go_simp; done) | (intro w hSw; (try dsimp only at hSw); go_simp; with_reducible rfl)
                try simp only [Act.put, List.setIfInBounds_toArray, List.set_cons_zero, List.set_cons_succ, List.getElem_toArray, List.getElem_cons_succ, List.getElem_cons_zero]
                refine wpAnyH_take (i := 15) (oi := _) (v := ?_) rfl (by kernel_rfl) (by kernel_rfl) (by kernel_rfl) (fun _ _ _ h => h) (Or.inl ⟨by rfl, ?_⟩) (by assumption) ?_
                rotate_left
                · first | (intro w hSw; (try dsimp only at hSw); go_simp; done) | (intro w hSw; (try dsimp only at hSw); go_simp; with_reducible rfl)
                try simp only [Act.put, List.setIfInBounds_toArray, List.set_cons_zero, List.set_cons_succ, List.getElem_toArray, List.getElem_cons_succ, List.getElem_cons_zero]
                refine wpAnyH_take (i := 16) (oi := _) (v := ?_) rfl (by kernel_rfl) (by kernel_rfl) (by kernel_rfl) (fun _ _ _ h => h) (Or.inl ⟨by rfl, ?_⟩) (by assumption) ?_
                rotate_left
                · first | (intro w hSw; (try dsimp only at hSw); go_simp; done) | (intro w hSw; (try dsimp only at hSw); go_simp; with_reducible rfl)
                try simp only [Act.put, List.setIfInBounds_toArray, List.set_cons_zero, List.set_cons_succ, List.getElem_toArray, List.getElem_cons_succ, List.getElem_cons_zero]
                refine wpAnyH_take (i := 17) (oi := _) (v := ?_) rfl (by kernel_rfl) (by kernel_rfl) (by kernel_rfl) (fun _ _ _ h => h) (Or.inl ⟨by rfl, ?_⟩) (by assumption) ?_
                rotate_left
                · first | (intro w hSw; (try dsimp only at hSw); go_simp; done) | (intro w hSw; (try dsimp only at hSw); go_simp; with_reducible rfl)
                try simp only [Act.put, List.setIfInBounds_toArray, List.set_cons_zero, List.set_cons_succ, List.getElem_toArray, List.getElem_cons_succ, List.getElem_cons_zero]
                refine wpAnyH_take (i := 18) (oi := _) (v := ?_) rfl (by kernel_rfl) (by kernel_rfl) (by kernel_rfl) (fun _ _ _ h => h) (Or.inl ⟨by rfl, ?_⟩) (by assumption) ?_
                rotate_left
                · first | (intro w hSw; (try dsimp only at hSw); go_simp; done) | (intro w hSw; (try dsimp only at hSw); go_simp; with_reducible rfl)
                try simp only [Act.put, List.setIfInBounds_toArray, List.set_cons_zero, List.set_cons_succ, List.getElem_toArray, List.getElem_cons_succ, List.getElem_cons_zero]
                refine wpAnyH_take (i := 19) (oi := _) (v := ?_) rfl (by kernel_rfl) (by kernel_rfl) (by kernel_rfl) (fun _ _ _ h => h) (Or.inl ⟨by rfl, ?_⟩) (by assumption) ?_
                rotate_left
                · first | (intro w hSw; (try dsimp only at hSw); go_simp; done) | (intro w hSw; (try dsimp only at hSw); go_simp; with_reducible rfl)
                try simp only [Act.put, List.setIfInBounds_toArray, List.set_cons_zero, List.set_cons_succ, List.getElem_toArray, List.getElem_cons_succ, List.getElem_cons_zero]
                refine wpAnyH_take (i := 20) (oi := _) (v := ?_) rfl (by kernel_rfl) (by kernel_rfl) (by kernel_rfl) (fun _ _ _ h => h) (Or.inl ⟨by rfl, ?_⟩) (by assumption) ?_
                rotate_left
                · first | (intro w hSw; (try dsimp only at hSw); go_simp; done) | (intro w hSw; (try dsimp only at hSw); go_simp; with_reducible rfl)
                try simp only [Act.put, List.setIfInBounds_toArray, List.set_cons_zero, List.set_cons_succ, List.getElem_toArray, List.getElem_cons_succ, List.getElem_cons_zero]
                refine wpAnyH_ready (rs := [21]) (by kernel_rfl) (by simp) ?_
                refine AllReadyH.cons rfl (fun K hK => ?_) AllReadyH.nil
                go_simp
                go_wp2_with (go_at_call 32; refine (EM.out _ DJ.out.drew).mono ?_; rintro e w6 ⟨rfl, b6⟩)
                have F6 : Hid (Below wr.heap.size wr w6) := bT ((Below.refl wr.heap.size wr).drew) b6
                clear b6
                refine hK.out _ _ ?_ (fun hHeld => ?_)
                · exact KJ.out _ F6.out
                clear hK K
                refine wpAnyH_take (i := 22) (oi := _) (v := ?_) rfl (by kernel_rfl) (by kernel_rfl) (by kernel_rfl) (fun _ _ _ h => h) (Or.inl ⟨by rfl, ?_⟩) (by assumption) ?_
                rotate_left
                · first | (intro w hSw; (try dsimp only at hSw); go_simp; done) | (intro w hSw; (try dsimp only at hSw); go_simp; with_reducible rfl)
                try simp only [Act.put, List.setIfInBounds_toArray, List.set_cons_zero, List.set_cons_succ, List.getElem_toArray, List.getElem_cons_succ, List.getElem_cons_zero]
                refine wpAnyH_take (i := 23) (oi := _) (v := ?_) rfl (by kernel_rfl) (by kernel_rfl) (by kernel_rfl) (fun _ _ _ h => h) (Or.inl ⟨by rfl, ?_⟩) (by assumption) ?_
                rotate_left
                · first | (intro w hSw; (try dsimp only at hSw); go_simp; done) | (intro w hSw; (try dsimp only at hSw); go_simp; with_reducible rfl)
                try simp only [Act.put, List.setIfInBounds_toArray, List.set_cons_zero, List.set_cons_succ, List.getElem_toArray, List.getElem_cons_succ, List.getElem_cons_zero]
                refine wpAnyH_done (by kernel_rfl) ?_ _
                have D6 := Lib.hid (bT HJ.out F6.out)
                have AT2 := Lib.hid (show (pl.take (j + 1)).all (fun o => mayL ps o.1 o.2 id z) = mb by rw [AT.out]; rfl)
                clear KJ F6 EM DJ AT
                go_wp2
                go_roundw
                case rel => exact ⟨j + 1, by rw [AT2.out], by go_num, by omega, D6⟩
                case measure => simp [intOf]; omega
              | false =>
                have AT2 := Lib.hid (show (pl.take (j + 1)).all (fun o => mayL ps o.1 o.2 id z) = false by rw [AT.out]; rfl)
                clear KJ EM DJ AT
                go_wp2_with fail
                refine wp_region_held_drew (S := fun W => True) (by kernel_rfl) ?_ (fun hHeld => ?_)
                · exact trivial
                refine wpAnyH_take (i := 0) (oi := _) (v := ?_) rfl (by kernel_rfl) (by kernel_rfl) (by kernel_rfl) (fun _ _ _ h => h) (Or.inl ⟨by rfl, ?_⟩) (by assumption) ?_
                rotate_left
                · first | (intro w hSw; (try dsimp only at hSw); go_simp; done) | (intro w hSw; (try dsimp only at hSw); go_simp; with_reducible rfl)
                try simp only [Act.put, List.setIfInBounds_toArray, List.set_cons_zero, List.set_cons_succ, List.getElem_toArray, List.getElem_cons_zero]
                refine wpAnyH_take (i := 1) (oi := _) (v := ?_) rfl (by kernel_rfl) (by kernel_rfl) (by kernel_rfl) (fun _ _ _ h => h) (Or.inl ⟨by rfl, ?_⟩) (by assumption) ?_
                rotate_left
                · first | (intro w hSw; (try dsimp only at hSw); go_simp; done) | (intro w hSw; (try dsimp only at hSw); go_simp; with_reducible rfl)
                try simp only [Act.put, List.setIfInBounds_toArray, List.set_cons_zero, List.set_cons_succ, List.getElem_toArray, List.getElem_cons_succ, List.getElem_cons_zero]
                refine wpAnyH_take (i := 2) (oi := _) (v := undef) rfl (by kernel_rfl) (by kernel_rfl) (by kernel_rfl) (fun _ _ _ h => h) (Or.inr ⟨by rfl, rfl⟩) (by assumption) ?_
                try simp only [Act.put, List.setIfInBounds_toArray, List.set_cons_zero, List.set_cons_succ, List.getElem_toArray, List.getElem_cons_succ, List.getElem_cons_zero]
                refine wpAnyH_take (i := 3) (oi := _) (v := undef) rfl (by kernel_rfl) (by kernel_rfl) (by kernel_rfl) (fun _ _ _ h => h) (Or.inr ⟨by rfl, rfl⟩) (by assumption) ?_
                try simp only [Act.put, List.setIfInBounds_toArray, List.set_cons_zero, List.set_cons_succ, List.getElem_toArray, List.getElem_cons_succ, List.getElem_cons_zero]
                refine wpAnyH_take (i := 4) (oi := _) (v := undef) rfl (by kernel_rfl) (by kernel_rfl) (by kernel_rfl) (fun _ _ _ h => h) (Or.inr ⟨by rfl, rfl⟩) (by assumption) ?_
                try simp only [Act.put, List.setIfInBounds_toArray, List.set_cons_zero, List.set_cons_succ, List.getElem_toArray, List.getElem_cons_succ, List.getElem_cons_zero]
                refine wpAnyH_take (i := 5) (oi := _) (v := undef) rfl (by kernel_rfl) (by kernel_rfl) (by kernel_rfl) (fun _ _ _ h => h) (Or.inr ⟨by rfl, rfl⟩) (by assumption) ?_
                try simp only [Act.put, List.setIfInBounds_toArray, List.set_cons_zero, List.set_cons_succ, List.getElem_toArray, List.getElem_cons_succ, List.getElem_cons_zero]
                refine wpAnyH_take (i := 6) (oi := _) (v := undef) rfl (by kernel_rfl) (by kernel_rfl) (by kernel_rfl) (fun _ _ _ h => h) (Or.inr ⟨by rfl, rfl⟩) (by assumption) ?_
                try simp only [Act.put, List.setIfInBounds_toArray, List.set_cons_zero, List.set_cons_succ, List.getElem_toArray, List.getElem_cons_succ, List.getElem_cons_zero]
                refine wpAnyH_take (i := 7) (oi := _) (v := undef) rfl (by kernel_rfl) (by kernel_rfl) (by kernel_rfl) (fun _ _ _ h => h) (Or.inr ⟨by rfl, rfl⟩) (by assumption) ?_
                try simp only [Act.put, List.setIfInBounds_toArray, List.set_cons_zero, List.set_cons_succ, List.getElem_toArray, List.getElem_cons_succ, List.getElem_cons_zero]
                refine wpAnyH_take (i := 8) (oi := _) (v := undef) rfl (by kernel_rfl) (by kernel_rfl) (by kernel_rfl) (fun _ _ _ h => h) (Or.inr ⟨by rfl, rfl⟩) (by assumption) ?_
                try simp only [Act.put, List.setIfInBounds_toArray, List.set_cons_zero, List.set_cons_succ, List.getElem_toArray, List.getElem_cons_succ, List.getElem_cons_zero]
                refine wpAnyH_take (i := 9) (oi := _) (v := undef) rfl (by kernel_rfl) (by kernel_rfl) (by kernel_rfl) (fun _ _ _ h => h) (Or.inr ⟨by rfl, rfl⟩) (by assumption) ?_
                try simp only [Act.put, List.setIfInBounds_toArray, List.set_cons_zero, List.set_cons_succ, List.getElem_toArray, List.getElem_cons_succ, List.getElem_cons_zero]
                refine wpAnyH_take (i := 10) (oi := _) (v := undef) rfl (by kernel_rfl) (by kernel_rfl) (by kernel_rfl) (fun _ _ _ h => h) (Or.inr ⟨by rfl, rfl⟩) (by assumption) ?_
                try simp only [Act.put, List.setIfInBounds_toArray, List.set_cons_zero, List.set_cons_succ, List.getElem_toArray, List.getElem_cons_succ, List.getElem_cons_zero]
                refine wpAnyH_take (i := 11) (oi := _) (v := undef) rfl (by kernel_rfl) (by kernel_rfl) (by kernel_rfl) (fun _ _ _ h => h) (Or.inr ⟨by rfl, rfl⟩) (by assumption) ?_
                try simp only [Act.put, List.setIfInBounds_toArray, List.set_cons_zero, List.set_cons_succ, List.getElem_toArray, List.getElem_cons_succ, List.getElem_cons_zero]
                refine wpAnyH_take (i := 12) (oi := _) (v := undef) rfl (by kernel_rfl) (by kernel_rfl) (by kernel_rfl) (fun _ _ _ h => h) (Or.inr ⟨by rfl, rfl⟩) (by assumption) ?_
                try simp only [Act.put, List.setIfInBounds_toArray, List.set_cons_zero, List.set_cons_succ, List.getElem_toArray, List.getElem_cons_succ, List.getElem_cons_zero]
                refine wpAnyH_take (i := 13) (oi := _) (v := undef) rfl (by kernel_rfl) (by kernel_rfl) (by kernel_rfl) (fun _ _ _ h => h) (Or.inr ⟨by rfl, rfl⟩) (by assumption) ?_
                try simp only [Act.put, List.setIfInBounds_toArray, List.set_cons_zero, List.set_cons_succ, List.getElem_toArray, List.getElem_cons_succ, List.getElem_cons_zero]
                refine wpAnyH_take (i := 14) (oi := _) (v := undef) rfl (by kernel_rfl) (by kernel_rfl) (by kernel_rfl) (fun _ _ _ h => h) (Or.inr ⟨by rfl, rfl⟩) (by assumption) ?_
                try simp only [Act.put, List.setIfInBounds_toArray, List.set_cons_zero, List.set_cons_succ, List.getElem_toArray, List.getElem_cons_succ, List.getElem_cons_zero]
                refine wpAnyH_take (i := 15) (oi := _) (v := undef) rfl (by kernel_rfl) (by kernel_rfl) (by kernel_rfl) (fun _ _ _ h => h) (Or.inr ⟨by rfl, rfl⟩) (by assumption) ?_
                try simp only [Act.put, List.setIfInBounds_toArray, List.set_cons_zero, List.set_cons_succ, List.getElem_toArray, List.getElem_cons_succ, List.getElem_cons_zero]
                refine wpAnyH_take (i := 16) (oi := _) (v := undef) rfl (by kernel_rfl) (by kernel_rfl) (by kernel_rfl) (fun _ _ _ h => h) (Or.inr ⟨by rfl, rfl⟩) (by assumption) ?_
                try simp only [Act.put, List.setIfInBounds_toArray, List.set_cons_zero, List.set_cons_succ, List.getElem_toArray, List.getElem_cons_succ, List.getElem_cons_zero]
                refine wpAnyH_take (i := 17) (oi := _) (v := undef) rfl (by kernel_rfl) (by kernel_rfl) (by kernel_rfl) (fun _ _ _ h => h) (Or.inr ⟨by rfl, rfl⟩) (by assumption) ?_
                try simp only [Act.put, List.setIfInBounds_toArray, List.set_cons_zero, List.set_cons_succ, List.getElem_toArray, List.getElem_cons_succ, List.getElem_cons_zero]
                refine wpAnyH_take (i := 18) (oi := _) (v := undef) rfl (by kernel_rfl) (by kernel_rfl) (by kernel_rfl) (fun _ _ _ h => h) (Or.inr ⟨by rfl, rfl⟩) (by assumption) ?_
                try simp only [Act.put, List.setIfInBounds_toArray, List.set_cons_zero, List.set_cons_succ, List.getElem_toArray, List.getElem_cons_succ, List.getElem_cons_zero]
                refine wpAnyH_take (i := 19) (oi := _) (v := undef) rfl (by kernel_rfl) (by kernel_rfl) (by kernel_rfl) (fun _ _ _ h => h) (Or.inr ⟨by rfl, rfl⟩) (by assumption) ?_
                try simp only [Act.put, List.setIfInBounds_toArray, List.set_cons_zero, List.set_cons_succ, List.getElem_toArray, List.getElem_cons_succ, List.getElem_cons_zero]
                refine wpAnyH_take (i := 20) (oi := _) (v := undef) rfl (by kernel_rfl) (by kernel_rfl) (by kernel_rfl) (fun _ _ _ h => h) (Or.inr ⟨by rfl, rfl⟩) (by assumption) ?_
                try simp only [Act.put, List.setIfInBounds_toArray, List.set_cons_zero, List.set_cons_succ, List.getElem_toArray, List.getElem_cons_succ, List.getElem_cons_zero]
                refine wpAnyH_take (i := 21) (oi := _) (v := undef) rfl (by kernel_rfl) (by kernel_rfl) (by kernel_rfl) (fun _ _ _ h => h) (Or.inr ⟨by rfl, rfl⟩) (by assumption) ?_
                try simp only [Act.put, List.setIfInBounds_toArray, List.set_cons_zero, List.set_cons_succ, List.getElem_toArray, List.getElem_cons_succ, List.getElem_cons_zero]
                refine wpAnyH_take (i := 22) (oi := _) (v := ?_) rfl (by kernel_rfl) (by kernel_rfl) (by kernel_rfl) (fun _ _ _ h => h) (Or.inl ⟨by rfl, ?_⟩) (by assumption) ?_
                rotate_left
                · first | (intro w hSw; (try dsimp only at hSw); go_simp; done) | (intro w hSw; (try dsimp only at hSw); go_simp; with_reducible rfl)
                try simp only [Act.put, List.setIfInBounds_toArray, List.set_cons_zero, List.set_cons_succ, List.getElem_toArray, List.getElem_cons_succ, List.getElem_cons_zero]
                refine wpAnyH_take (i := 23) (oi := _) (v := ?_) rfl (by kernel_rfl) (by kernel_rfl) (by kernel_rfl) (fun _ _ _ h => h) (Or.inl ⟨by rfl, ?_⟩) (by assumption) ?_
                rotate_left
                · first | (intro w hSw; (try dsimp only at hSw); go_simp; done) | (intro w hSw; (try dsimp only at hSw); go_simp; with_reducible rfl)
                try simp only [Act.put, List.setIfInBounds_toArray, List.set_cons_zero, List.set_cons_succ, List.getElem_toArray, List.getElem_cons_succ, List.getElem_cons_zero]
                refine wpAnyH_done (by kernel_rfl) ?_ _
                go_wp2
                go_roundw
                case rel => exact ⟨j + 1, by rw [AT2.out], by go_num, by omega, Lib.hid HJ.out.drew⟩
                case measure => simp [intOf]; omega
            · have g3' : ¬ (j : Int) < (m : Int) := by omega
              have FE : Hid ((pl.take j).all (fun o => mayL ps o.1 o.2 id z) = fitB ps pl (id, z)) := by
                show _ = _
                rw [List.take_of_length_le (by rw [HM.out]; omega), FM.out pl (id, z)]
              rw [FE.out]
              clear FE
              generalize hfb : fitB ps pl (id, z) = fb at *
              clear hfb
              cases fb with
              | false =>
                have TR9 := Lib.hid (TN.out rfl)
                clear TN TY0
                go_wp2
                go_roundw
                case rel => exact ⟨i + 1, s' + 1, by go_num, by omega, by omega, TR9, S5, N5⟩
                case measure => simp [intOf]; omega
              | true =>
                have TY1 := TY0.out rfl
                have LE9 := (seek_le (fitB ps) bud CD (pl ++ [(id, z)]) (s' + 1) (by omega)).2
                have KS : Hid (∀ W, Below wr.heap.size wr W → dc < W.heap.size ∧ W.cell? ⟨dc, di + i, none⟩ = some (.int .i64 z)) := fun W hW => ⟨Nat.lt_of_lt_of_le hdl5 hW.size, (hW.cell hdl5).trans hdc5⟩
                have KN : Hid (∀ W, Onl kb wr W → dc < W.heap.size ∧ W.cell? ⟨dc, di + i, none⟩ = some (.int .i64 z)) := fun W hW => ⟨Nat.lt_of_lt_of_le hdl5 hW.size, (hW.cell hdl5 hdk).trans hdc5⟩
                have PX : Hid (∀ W, Below wr.heap.size wr W → Pls W psl pl) := fun W hW => (PN4.out.pls.below HJ.out).below hW
                have E9 : Hid (∀ v W, Below wr.heap.size wr W → W.ownsRow wr.heap.size 62 2 v (pl ++ [(id, z)]).length (enCells (pl ++ [(id, z)])) → Calls Try.prog 21 #[.pointer (some ⟨kb, 0, none⟩), v] W (FromP kb (.slice sl rn cap) (.slice sl2 pn cap2) (.int .i64 top) (.slice (some ⟨ic, io, none⟩) n cap3) bud W (seek (fitB ps) bud CD (pl ++ [(id, z)]) (s' + 1)))) := fun v W hW ow => by
                  obtain ⟨sl', cap', rfl, pp⟩ := own_pls ow
                  have hl2 : (pl ++ [(id, z)]).length = m + 1 := by rw [List.length_append, HM.out]; rfl
                  refine IH.out z (s' + 1) _ W (by omega) (bT (bT B4.out HJ.out) hW) (S5.out.of hW) ⟨sl', cap', by rw [hl2], ?_⟩ ⟨⟨by show (0 : Int) ≤ id; omega, by show id ≤ 1000; omega⟩, ⟨by show (0 : Int) ≤ z; omega, by show z ≤ 1000; omega⟩⟩
                  rcases pp with h | ⟨c', e1, h1, h2⟩
                  · exact .inl h
                  · exact .inr ⟨c', 0, e1, h1, by omega⟩
                generalize seek (fitB ps) bud CD (pl ++ [(id, z)]) (s' + 1) = r9 at *
                have NW := Lib.hid (N1.out.trans N5.out)
                have TY := Lib.hid TY1
                have LH := Lib.hid LE9
                clear TY1 LE9 TN TY0 hdc5 S5 S4 B4 PN4 HJ N4 EM'
                go_wp2_with fail
                refine wp_region_held_drew (S := fun W => dc < W.heap.size ∧ W.cell? ⟨dc, di + i, none⟩ = some (.int .i64 z)) (by kernel_rfl) ?_ (fun hHeld => ?_)
                · exact KS.out _ (Below.refl _ _).drew
                refine wpAnyH_take (i := 0) (oi := _) (v := ?_) rfl (by kernel_rfl) (by kernel_rfl) (by kernel_rfl) (fun _ _ _ h => h) (Or.inl ⟨by rfl, ?_⟩) (by assumption) ?_
                rotate_left
                · first | (intro w hSw; (try dsimp only at hSw); go_simp; done) | (intro w hSw; (try dsimp only at hSw); go_simp; with_reducible rfl)
                try simp only [Act.put, List.setIfInBounds_toArray, List.set_cons_zero, List.set_cons_succ, List.getElem_toArray, List.getElem_cons_zero]
                refine wpAnyH_take (i := 2) (oi := _) (v := ?_) rfl (by kernel_rfl) (by kernel_rfl) (by kernel_rfl) (fun _ _ _ h => h) (Or.inl ⟨by rfl, ?_⟩) (by assumption) ?_
                rotate_left
                · first | (intro w hSw; (try dsimp only at hSw); go_simp; done) | (intro w hSw; (try dsimp only at hSw); go_simp; with_reducible rfl)
                try simp only [Act.put, List.setIfInBounds_toArray, List.set_cons_zero, List.set_cons_succ, List.getElem_toArray, List.getElem_cons_succ, List.getElem_cons_zero]
                refine wpAnyH_take (i := 4) (oi := _) (v := ?_) rfl (by kernel_rfl) (by kernel_rfl) (by kernel_rfl) (fun _ _ _ h => h) (Or.inl ⟨by rfl, ?_⟩) (by assumption) ?_
                rotate_left
                · first | (intro w hSw; (try dsimp only at hSw); go_simp; done) | (intro w hSw; (try dsimp only at hSw); go_simp; with_reducible rfl)
                try simp only [Act.put, List.setIfInBounds_toArray, List.set_cons_zero, List.set_cons_succ, List.getElem_toArray, List.getElem_cons_succ, List.getElem_cons_zero]
                refine wpAnyH_take (i := 5) (oi := _) (v := ?_) rfl (by kernel_rfl) (by kernel_rfl) (by kernel_rfl) (fun _ _ _ h => h) (Or.inl ⟨by rfl, ?_⟩) (by assumption) ?_
                rotate_left
                · first | (intro w hSw; (try dsimp only at hSw); go_simp; done) | (intro w hSw; (try dsimp only at hSw); go_simp; with_reducible rfl)
                try simp only [Act.put, List.setIfInBounds_toArray, List.set_cons_zero, List.set_cons_succ, List.getElem_toArray, List.getElem_cons_succ, List.getElem_cons_zero]
                refine wpAnyH_take (i := 6) (oi := _) (v := ?_) rfl (by kernel_rfl) (by kernel_rfl) (by kernel_rfl) (fun _ _ _ h => h) (Or.inl ⟨by rfl, ?_⟩) (by assumption) ?_
                rotate_left
                · first | (intro w hSw; (try dsimp only at hSw); go_simp; done) | (intro w hSw; (try dsimp only at hSw); go_simp; with_reducible rfl)
                try simp only [Act.put, List.setIfInBounds_toArray, List.set_cons_zero, List.set_cons_succ, List.getElem_toArray, List.getElem_cons_succ, List.getElem_cons_zero]
                refine wpAnyH_take (i := 7) (oi := _) (v := ?_) rfl (by kernel_rfl) (by kernel_rfl) (by kernel_rfl) (fun _ _ _ h => h) (Or.inl ⟨by rfl, ?_⟩) (by assumption) ?_
                rotate_left
                · first | (intro w hSw; (try dsimp only at hSw); go_simp; done) | (intro w hSw; (try dsimp only at hSw); go_simp; with_reducible rfl)
                try simp only [Act.put, List.setIfInBounds_toArray, List.set_cons_zero, List.set_cons_succ, List.getElem_toArray, List.getElem_cons_succ, List.getElem_cons_zero]
                refine wpAnyH_take (i := 8) (oi := _) (v := ?_) rfl (by kernel_rfl) (by kernel_rfl) (by kernel_rfl) (fun _ _ _ h => h) (Or.inl ⟨by rfl, ?_⟩) (by assumption) ?_
                rotate_left
                · first | (intro w hSw; (try dsimp only at hSw); go_simp; done) | (intro w hSw; (try dsimp only at hSw); go_simp; with_reducible rfl)
                try simp only [Act.put, List.setIfInBounds_toArray, List.set_cons_zero, List.set_cons_succ, List.getElem_toArray, List.getElem_cons_succ, List.getElem_cons_zero]
                refine wpAnyH_take (i := 9) (oi := _) (v := ?_) rfl (by kernel_rfl) (by kernel_rfl) (by kernel_rfl) (fun _ _ _ h => h) (Or.inl ⟨by rfl, ?_⟩) (by assumption) ?_
                rotate_left
                · first | (intro w hSw; (try dsimp only at hSw); go_simp; done) | (intro w hSw; (try dsimp only at hSw); go_simp; with_reducible rfl)
                try simp only [Act.put, List.setIfInBounds_toArray, List.set_cons_zero, List.set_cons_succ, List.getElem_toArray, List.getElem_cons_succ, List.getElem_cons_zero]
                refine wpAnyH_ready (rs := [1, 10]) (by kernel_rfl) (by simp) ?_
                refine AllReadyH.cons rfl (fun K hK => ?_) (AllReadyH.cons rfl (fun K hK => ?_) AllReadyH.nil)
                · go_simp
                  refine hK.out _ _ ?_ (fun hHeld => ?_)
                  · exact KS.out _ (bA (Below.refl wr.heap.size wr) (.cells #[] 62)).drew
                  clear hK K
                  refine wpAnyH_ready (rs := [3, 10]) (by kernel_rfl) (by simp) ?_
                  refine AllReadyH.cons rfl (fun K hK => ?_) (AllReadyH.cons rfl (fun K hK => ?_) AllReadyH.nil)
                  · obtain ⟨v3, w3, hr3, ow3, gr3, lo3⟩ := app27 (show ((wr.alloc (.cells #[] 62)).drew).ownsRow wr.heap.size 62 2 (.slice (some ⟨wr.heap.size, 0, none⟩) 0 0) ([] : List LPl).length (enCells []) from own_e34 wr) (pcap := pcap) (PX.out _ (bA (Below.refl wr.heap.size wr) _).drew) (by first | omega | (simp; done) | (simp; omega)) (by first | omega | (simp; done) | (simp; omega))
                    rw [HM.out] at hr3
                    have B3 := Lib.hid (((bA (Below.refl wr.heap.size wr) (.cells #[] 62)).drew).grown gr3 (by first | omega | (simp; done) | (simp; omega)) lo3)
                    --
                    refine step_append_run _ rfl (.tmp 100) (.tmp 101) 30 30 rfl _ _ (by simp [Act.eval]) (by simp [Act.eval]) _ _ hr3 ?_
                    refine hK.out _ _ ?_ (fun hHeld => ?_)
                    · exact KS.out _ B3.out
                    clear hK K
                    try simp only [Act.put, List.setIfInBounds_toArray, List.set_cons_zero, List.set_cons_succ, List.getElem_toArray, List.getElem_cons_succ, List.getElem_cons_zero]
                    rw [List.nil_append] at ow3
                    have hs3 := B3.out.size
                    refine wpAnyH_ready (rs := [10]) (by kernel_rfl) (by simp) ?_
                    refine AllReadyH.cons rfl (fun K hK => ?_) AllReadyH.nil
                    go_simp
                    refine hK.out _ _ ?_ (fun hHeld => ?_)
                    · exact KS.out _ (bA B3.out (.cells #[.int .i64 id, .int .i64 z] 62))
                    clear hK K
                    refine wpAnyH_ready (rs := [11]) (by kernel_rfl) (by simp) ?_
                    refine AllReadyH.cons rfl (fun K hK => ?_) AllReadyH.nil
                    obtain ⟨v4, w4, hr4, ow4, gr4, lo4⟩ := app27 (ow3.alloc (.cells #[.int .i64 id, .int .i64 z] 62)) (pcap := 1) (lit27 _ _ _) (by first | omega | (simp; done) | (simp; omega)) (by first | omega | (simp; done) | (simp; omega))
                    have B4 := Lib.hid ((bA B3.out (.cells #[.int .i64 id, .int .i64 z] 62)).grown gr4 (by first | omega | (simp; done) | (simp; omega)) lo4)
                    --
                    refine step_append_run _ rfl (.tmp 102) (.tmp 109) 30 30 rfl _ _ (by simp [Act.eval]) (by simp [Act.eval]) _ _ hr4 ?_
                    refine hK.out _ _ ?_ (fun hHeld => ?_)
                    · exact KS.out _ B4.out
                    clear hK K
                    try simp only [Act.put, List.setIfInBounds_toArray, List.set_cons_zero, List.set_cons_succ, List.getElem_toArray, List.getElem_cons_succ, List.getElem_cons_zero]
                    have O9 := Lib.hid ow4
                    have hn9 := Lib.hid (E9.out v4 w4 B4.out O9.out)
                    refine wpAnyH_ready (rs := [12]) (by kernel_rfl) (by simp) ?_
                    refine AllReadyH.cons rfl (fun K hK => ?_) AllReadyH.nil
                    go_simp
                    go_wp2_with (go_at_call 21; refine hn9.out.mono ?_; rintro e w7 ⟨v7, ok7, rfl, pf7, on7⟩)
                    have N7 := Lib.hid ((Onl.of_below B4.out).trans on7)
                    clear on7 hn9
                    refine hK.out _ _ ?_ (fun hHeld => ?_)
                    · exact KN.out _ N7.out
                    clear hK K
                    cases r9 with
                    | found p s2 =>
                      obtain ⟨rfl, ⟨ps7, pc7, rfl, pn7⟩, sk7⟩ := pf7
                      refine wpAnyH_take (i := 13) (oi := _) (v := ?_) rfl (by kernel_rfl) (by kernel_rfl) (by kernel_rfl) (fun _ _ _ h => h) (Or.inl ⟨by rfl, ?_⟩) (by assumption) ?_
                      rotate_left
                      · first | (intro w hSw; (try dsimp only at hSw); go_simp; done) | (intro w hSw; (try dsimp only at hSw); go_simp; with_reducible rfl)
                      try simp only [Act.put, List.setIfInBounds_toArray, List.set_cons_zero, List.set_cons_succ, List.getElem_toArray, List.getElem_cons_succ, List.getElem_cons_zero]
                      refine wpAnyH_take (i := 14) (oi := _) (v := ?_) rfl (by kernel_rfl) (by kernel_rfl) (by kernel_rfl) (fun _ _ _ h => h) (Or.inl ⟨by rfl, ?_⟩) (by assumption) ?_
                      rotate_left
                      · first | (intro w hSw; (try dsimp only at hSw); go_simp; done) | (intro w hSw; (try dsimp only at hSw); go_simp; with_reducible rfl)
                      try simp only [Act.put, List.setIfInBounds_toArray, List.set_cons_zero, List.set_cons_succ, List.getElem_toArray, List.getElem_cons_succ, List.getElem_cons_zero]
                      refine wpAnyH_take (i := 15) (oi := _) (v := ?_) rfl (by kernel_rfl) (by kernel_rfl) (by kernel_rfl) (fun _ _ _ h => h) (Or.inl ⟨by rfl, ?_⟩) (by assumption) ?_
                      rotate_left
                      · first | (intro w hSw; (try dsimp only at hSw); go_simp; done) | (intro w hSw; (try dsimp only at hSw); go_simp; with_reducible rfl)
                      try simp only [Act.put, List.setIfInBounds_toArray, List.set_cons_zero, List.set_cons_succ, List.getElem_toArray, List.getElem_cons_succ, List.getElem_cons_zero]
                      refine wpAnyH_take (i := 16) (oi := _) (v := ?_) rfl (by kernel_rfl) (by kernel_rfl) (by kernel_rfl) (fun _ _ _ h => h) (Or.inl ⟨by rfl, ?_⟩) (by assumption) ?_
                      rotate_left
                      · first | (intro w hSw; (try dsimp only at hSw); go_simp; done) | (intro w hSw; (try dsimp only at hSw); go_simp; with_reducible rfl)
                      try simp only [Act.put, List.setIfInBounds_toArray, List.set_cons_zero, List.set_cons_succ, List.getElem_toArray, List.getElem_cons_succ, List.getElem_cons_zero]
                      refine wpAnyH_take (i := 17) (oi := _) (v := ?_) rfl (by kernel_rfl) (by kernel_rfl) (by kernel_rfl) (fun _ _ _ h => h) (Or.inl ⟨by rfl, ?_⟩) (by assumption) ?_
                      rotate_left
                      · first | (intro w hSw; (try dsimp only at hSw); go_simp; done) | (intro w hSw; (try dsimp only at hSw); go_simp; with_reducible rfl)
                      try simp only [Act.put, List.setIfInBounds_toArray, List.set_cons_zero, List.set_cons_succ, List.getElem_toArray, List.getElem_cons_succ, List.getElem_cons_zero]
                      refine wpAnyH_done (by kernel_rfl) ?_ _
                      have PF := Lib.hid (And.intro pn7 sk7)
                      have NN := Lib.hid (NW.out.trans N7.out)
                      have TR9 := Lib.hid TY.out
                      clear pn7 sk7 N7 KS KN
                      go_wp2
                      refine bodyPost_ret (v := .tuple #[.slice ps7 p.length pc7, .bool true]) (by simp [results, Try.results21, go_sem]) rfl ⟨_, true, rfl, by rw [TR9.out]; exact ⟨rfl, ⟨_, _, rfl, PF.out.1⟩, PF.out.2⟩, NN.out⟩
                    | none s2 =>
                      obtain ⟨rfl, sk7⟩ := pf7
                      refine wpAnyH_take (i := 13) (oi := _) (v := ?_) rfl (by kernel_rfl) (by kernel_rfl) (by kernel_rfl) (fun _ _ _ h => h) (Or.inl ⟨by rfl, ?_⟩) (by assumption) ?_
                      rotate_left
                      · first | (intro w hSw; (try dsimp only at hSw); go_simp; done) | (intro w hSw; (try dsimp only at hSw); go_simp; with_reducible rfl)
                      try simp only [Act.put, List.setIfInBounds_toArray, List.set_cons_zero, List.set_cons_succ, List.getElem_toArray, List.getElem_cons_succ, List.getElem_cons_zero]
                      refine wpAnyH_take (i := 14) (oi := _) (v := ?_) rfl (by kernel_rfl) (by kernel_rfl) (by kernel_rfl) (fun _ _ _ h => h) (Or.inl ⟨by rfl, ?_⟩) (by assumption) ?_
                      rotate_left
                      · first | (intro w hSw; (try dsimp only at hSw); go_simp; done) | (intro w hSw; (try dsimp only at hSw); go_simp; with_reducible rfl)
                      try simp only [Act.put, List.setIfInBounds_toArray, List.set_cons_zero, List.set_cons_succ, List.getElem_toArray, List.getElem_cons_succ, List.getElem_cons_zero]
                      refine wpAnyH_take (i := 15) (oi := _) (v := ?_) rfl (by kernel_rfl) (by kernel_rfl) (by kernel_rfl) (fun _ _ _ h => h) (Or.inl ⟨by rfl, ?_⟩) (by assumption) ?_
                      rotate_left
                      · first | (intro w hSw; (try dsimp only at hSw); go_simp; done) | (intro w hSw; (try dsimp only at hSw); go_simp; with_reducible rfl)
                      try simp only [Act.put, List.setIfInBounds_toArray, List.set_cons_zero, List.set_cons_succ, List.getElem_toArray, List.getElem_cons_succ, List.getElem_cons_zero]
                      refine wpAnyH_take (i := 16) (oi := _) (v := ?_) rfl (by kernel_rfl) (by kernel_rfl) (by kernel_rfl) (fun _ _ _ h => h) (Or.inl ⟨by rfl, ?_⟩) (by assumption) ?_
                      rotate_left
                      · first | (intro w hSw; (try dsimp only at hSw); go_simp; done) | (intro w hSw; (try dsimp only at hSw); go_simp; with_reducible rfl)
                      try simp only [Act.put, List.setIfInBounds_toArray, List.set_cons_zero, List.set_cons_succ, List.getElem_toArray, List.getElem_cons_succ, List.getElem_cons_zero]
                      refine wpAnyH_take (i := 17) (oi := _) (v := ?_) rfl (by kernel_rfl) (by kernel_rfl) (by kernel_rfl) (fun _ _ _ h => h) (Or.inl ⟨by rfl, ?_⟩) (by assumption) ?_
                      rotate_left
                      · first | (intro w hSw; (try dsimp only at hSw); go_simp; done) | (intro w hSw; (try dsimp only at hSw); go_simp; with_reducible rfl)
                      try simp only [Act.put, List.setIfInBounds_toArray, List.set_cons_zero, List.set_cons_succ, List.getElem_toArray, List.getElem_cons_succ, List.getElem_cons_zero]
                      refine wpAnyH_done (by kernel_rfl) ?_ _
                      have SK := Lib.hid sk7
                      have ND := Lib.hid (N5.out.trans N7.out)
                      have TR9 := Lib.hid TY.out
                      have hle9 := LH.out
                      obtain ⟨q0, q1, q2, q3, q4, q5, q6, q7, f5, f6⟩ := SK.out.facts
                      clear sk7 N7 KS KN
                      go_wp2
                      go_roundw
                      case rel => exact ⟨i + 1, s2, by go_num, by omega, hle9, TR9.out.symm, SK, ND⟩
                      case measure => simp [intOf]; omega
                    | out s2 =>
                      obtain ⟨rfl, sk7⟩ := pf7
                      refine wpAnyH_take (i := 13) (oi := _) (v := ?_) rfl (by kernel_rfl) (by kernel_rfl) (by kernel_rfl) (fun _ _ _ h => h) (Or.inl ⟨by rfl, ?_⟩) (by assumption) ?_
                      rotate_left
                      · first | (intro w hSw; (try dsimp only at hSw); go_simp; done) | (intro w hSw; (try dsimp only at hSw); go_simp; with_reducible rfl)
                      try simp only [Act.put, List.setIfInBounds_toArray, List.set_cons_zero, List.set_cons_succ, List.getElem_toArray, List.getElem_cons_succ, List.getElem_cons_zero]
                      refine wpAnyH_take (i := 14) (oi := _) (v := ?_) rfl (by kernel_rfl) (by kernel_rfl) (by kernel_rfl) (fun _ _ _ h => h) (Or.inl ⟨by rfl, ?_⟩) (by assumption) ?_
                      rotate_left
                      · first | (intro w hSw; (try dsimp only at hSw); go_simp; done) | (intro w hSw; (try dsimp only at hSw); go_simp; with_reducible rfl)
                      try simp only [Act.put, List.setIfInBounds_toArray, List.set_cons_zero, List.set_cons_succ, List.getElem_toArray, List.getElem_cons_succ, List.getElem_cons_zero]
                      refine wpAnyH_take (i := 15) (oi := _) (v := ?_) rfl (by kernel_rfl) (by kernel_rfl) (by kernel_rfl) (fun _ _ _ h => h) (Or.inl ⟨by rfl, ?_⟩) (by assumption) ?_
                      rotate_left
                      · first | (intro w hSw; (try dsimp only at hSw); go_simp; done) | (intro w hSw; (try dsimp only at hSw); go_simp; with_reducible rfl)
                      try simp only [Act.put, List.setIfInBounds_toArray, List.set_cons_zero, List.set_cons_succ, List.getElem_toArray, List.getElem_cons_succ, List.getElem_cons_zero]
                      refine wpAnyH_take (i := 16) (oi := _) (v := ?_) rfl (by kernel_rfl) (by kernel_rfl) (by kernel_rfl) (fun _ _ _ h => h) (Or.inl ⟨by rfl, ?_⟩) (by assumption) ?_
                      rotate_left
                      · first | (intro w hSw; (try dsimp only at hSw); go_simp; done) | (intro w hSw; (try dsimp only at hSw); go_simp; with_reducible rfl)
                      try simp only [Act.put, List.setIfInBounds_toArray, List.set_cons_zero, List.set_cons_succ, List.getElem_toArray, List.getElem_cons_succ, List.getElem_cons_zero]
                      refine wpAnyH_take (i := 17) (oi := _) (v := ?_) rfl (by kernel_rfl) (by kernel_rfl) (by kernel_rfl) (fun _ _ _ h => h) (Or.inl ⟨by rfl, ?_⟩) (by assumption) ?_
                      rotate_left
                      · first | (intro w hSw; (try dsimp only at hSw); go_simp; done) | (intro w hSw; (try dsimp only at hSw); go_simp; with_reducible rfl)
                      try simp only [Act.put, List.setIfInBounds_toArray, List.set_cons_zero, List.set_cons_succ, List.getElem_toArray, List.getElem_cons_succ, List.getElem_cons_zero]
                      refine wpAnyH_done (by kernel_rfl) ?_ _
                      have SK := Lib.hid sk7
                      have NN := Lib.hid (NW.out.trans N7.out)
                      have TR9 := Lib.hid TY.out
                      obtain ⟨q0, q1, q2, q3, q4, q5, q6, q7, f5, f6⟩ := SK.out.facts
                      clear sk7 N7 KS KN
                      go_wp2
                      refine bodyPost_ret (v := .tuple #[v7, .bool false]) (by simp [results, Try.results21, go_sem]) rfl ⟨_, false, rfl, by rw [TR9.out]; exact ⟨rfl, SK.out⟩, NN.out⟩
                  · go_simp
                    refine hK.out _ _ ?_ (fun hHeld => ?_)
                    · exact KS.out _ (bA (bA (Below.refl wr.heap.size wr) (.cells #[] 62)) (.cells #[.int .i64 id, .int .i64 z] 62)).drew
                    clear hK K
                    refine wpAnyH_ready (rs := [3]) (by kernel_rfl) (by simp) ?_
                    refine AllReadyH.cons rfl (fun K hK => ?_) AllReadyH.nil
                    obtain ⟨v3, w3, hr3, ow3, gr3, lo3⟩ := app27 (show (((wr.alloc (.cells #[] 62)).alloc (.cells #[.int .i64 id, .int .i64 z] 62)).drew).ownsRow wr.heap.size 62 2 (.slice (some ⟨wr.heap.size, 0, none⟩) 0 0) ([] : List LPl).length (enCells []) from (own_e34 wr).alloc _) (pcap := pcap) (PX.out _ (bA (bA (Below.refl wr.heap.size wr) _) _).drew) (by first | omega | (simp; done) | (simp; omega)) (by first | omega | (simp; done) | (simp; omega))
                    rw [HM.out] at hr3
                    have B3 := Lib.hid (((bA (bA (Below.refl wr.heap.size wr) (.cells #[] 62)) (.cells #[.int .i64 id, .int .i64 z] 62)).drew).grown gr3 (by first | omega | (simp; done) | (simp; omega)) lo3)
                    --
                    refine step_append_run _ rfl (.tmp 100) (.tmp 101) 30 30 rfl _ _ (by simp [Act.eval]) (by simp [Act.eval]) _ _ hr3 ?_
                    refine hK.out _ _ ?_ (fun hHeld => ?_)
                    · exact KS.out _ B3.out
                    clear hK K
                    try simp only [Act.put, List.setIfInBounds_toArray, List.set_cons_zero, List.set_cons_succ, List.getElem_toArray, List.getElem_cons_succ, List.getElem_cons_zero]
                    rw [List.nil_append] at ow3
                    have hs3 := B3.out.size
                    have hlit : Pls w3 (some ⟨wr.heap.size + 1, 0, none⟩) [(id, z)] := litK27 ((lit27' wr (.cells #[] 62) id z).below (Below.refl _ _).drew) gr3 (by simp [Value.ownBlock])
                    refine wpAnyH_ready (rs := [11]) (by kernel_rfl) (by simp) ?_
                    refine AllReadyH.cons rfl (fun K hK => ?_) AllReadyH.nil
                    obtain ⟨v4, w4, hr4, ow4, gr4, lo4⟩ := app27 (ow3) (pcap := 1) (hlit) (by first | omega | (simp; done) | (simp; omega)) (by first | omega | (simp; done) | (simp; omega))
                    have B4 := Lib.hid ((B3.out).grown gr4 (by first | omega | (simp; done) | (simp; omega)) lo4)
                    --
                    refine step_append_run _ rfl (.tmp 102) (.tmp 109) 30 30 rfl _ _ (by simp [Act.eval]) (by simp [Act.eval]) _ _ hr4 ?_
                    refine hK.out _ _ ?_ (fun hHeld => ?_)
                    · exact KS.out _ B4.out
                    clear hK K
                    try simp only [Act.put, List.setIfInBounds_toArray, List.set_cons_zero, List.set_cons_succ, List.getElem_toArray, List.getElem_cons_succ, List.getElem_cons_zero]
                    have O9 := Lib.hid ow4
                    have hn9 := Lib.hid (E9.out v4 w4 B4.out O9.out)
                    refine wpAnyH_ready (rs := [12]) (by kernel_rfl) (by simp) ?_
                    refine AllReadyH.cons rfl (fun K hK => ?_) AllReadyH.nil
                    go_simp
                    go_wp2_with (go_at_call 21; refine hn9.out.mono ?_; rintro e w7 ⟨v7, ok7, rfl, pf7, on7⟩)
                    have N7 := Lib.hid ((Onl.of_below B4.out).trans on7)
                    clear on7 hn9
                    refine hK.out _ _ ?_ (fun hHeld => ?_)
                    · exact KN.out _ N7.out
                    clear hK K
                    cases r9 with
                    | found p s2 =>
                      obtain ⟨rfl, ⟨ps7, pc7, rfl, pn7⟩, sk7⟩ := pf7
                      refine wpAnyH_take (i := 13) (oi := _) (v := ?_) rfl (by kernel_rfl) (by kernel_rfl) (by kernel_rfl) (fun _ _ _ h => h) (Or.inl ⟨by rfl, ?_⟩) (by assumption) ?_
                      rotate_left
                      · first | (intro w hSw; (try dsimp only at hSw); go_simp; done) | (intro w hSw; (try dsimp only at hSw); go_simp; with_reducible rfl)
                      try simp only [Act.put, List.setIfInBounds_toArray, List.set_cons_zero, List.set_cons_succ, List.getElem_toArray, List.getElem_cons_succ, List.getElem_cons_zero]
                      refine wpAnyH_take (i := 14) (oi := _) (v := ?_) rfl (by kernel_rfl) (by kernel_rfl) (by kernel_rfl) (fun _ _ _ h => h) (Or.inl ⟨by rfl, ?_⟩) (by assumption) ?_
                      rotate_left
                      · first | (intro w hSw; (try dsimp only at hSw); go_simp; done) | (intro w hSw; (try dsimp only at hSw); go_simp; with_reducible rfl)
                      try simp only [Act.put, List.setIfInBounds_toArray, List.set_cons_zero, List.set_cons_succ, List.getElem_toArray, List.getElem_cons_succ, List.getElem_cons_zero]
                      refine wpAnyH_take (i := 15) (oi := _) (v := ?_) rfl (by kernel_rfl) (by kernel_rfl) (by kernel_rfl) (fun _ _ _ h => h) (Or.inl ⟨by rfl, ?_⟩) (by assumption) ?_
                      rotate_left
                      · first | (intro w hSw; (try dsimp only at hSw); go_simp; done) | (intro w hSw; (try dsimp only at hSw); go_simp; with_reducible rfl)
                      try simp only [Act.put, List.setIfInBounds_toArray, List.set_cons_zero, List.set_cons_succ, List.getElem_toArray, List.getElem_cons_succ, List.getElem_cons_zero]
                      refine wpAnyH_take (i := 16) (oi := _) (v := ?_) rfl (by kernel_rfl) (by kernel_rfl) (by kernel_rfl) (fun _ _ _ h => h) (Or.inl ⟨by rfl, ?_⟩) (by assumption) ?_
                      rotate_left
                      · first | (intro w hSw; (try dsimp only at hSw); go_simp; done) | (intro w hSw; (try dsimp only at hSw); go_simp; with_reducible rfl)
                      try simp only [Act.put, List.setIfInBounds_toArray, List.set_cons_zero, List.set_cons_succ, List.getElem_toArray, List.getElem_cons_succ, List.getElem_cons_zero]
                      refine wpAnyH_take (i := 17) (oi := _) (v := ?_) rfl (by kernel_rfl) (by kernel_rfl) (by kernel_rfl) (fun _ _ _ h => h) (Or.inl ⟨by rfl, ?_⟩) (by assumption) ?_
                      rotate_left
                      · first | (intro w hSw; (try dsimp only at hSw); go_simp; done) | (intro w hSw; (try dsimp only at hSw); go_simp; with_reducible rfl)
                      try simp only [Act.put, List.setIfInBounds_toArray, List.set_cons_zero, List.set_cons_succ, List.getElem_toArray, List.getElem_cons_succ, List.getElem_cons_zero]
                      refine wpAnyH_done (by kernel_rfl) ?_ _
                      have PF := Lib.hid (And.intro pn7 sk7)
                      have NN := Lib.hid (NW.out.trans N7.out)
                      have TR9 := Lib.hid TY.out
                      clear pn7 sk7 N7 KS KN
                      go_wp2
                      refine bodyPost_ret (v := .tuple #[.slice ps7 p.length pc7, .bool true]) (by simp [results, Try.results21, go_sem]) rfl ⟨_, true, rfl, by rw [TR9.out]; exact ⟨rfl, ⟨_, _, rfl, PF.out.1⟩, PF.out.2⟩, NN.out⟩
                    | none s2 =>
                      obtain ⟨rfl, sk7⟩ := pf7
                      refine wpAnyH_take (i := 13) (oi := _) (v := ?_) rfl (by kernel_rfl) (by kernel_rfl) (by kernel_rfl) (fun _ _ _ h => h) (Or.inl ⟨by rfl, ?_⟩) (by assumption) ?_
                      rotate_left
                      · first | (intro w hSw; (try dsimp only at hSw); go_simp; done) | (intro w hSw; (try dsimp only at hSw); go_simp; with_reducible rfl)
                      try simp only [Act.put, List.setIfInBounds_toArray, List.set_cons_zero, List.set_cons_succ, List.getElem_toArray, List.getElem_cons_succ, List.getElem_cons_zero]
                      refine wpAnyH_take (i := 14) (oi := _) (v := ?_) rfl (by kernel_rfl) (by kernel_rfl) (by kernel_rfl) (fun _ _ _ h => h) (Or.inl ⟨by rfl, ?_⟩) (by assumption) ?_
                      rotate_left
                      · first | (intro w hSw; (try dsimp only at hSw); go_simp; done) | (intro w hSw; (try dsimp only at hSw); go_simp; with_reducible rfl)
                      try simp only [Act.put, List.setIfInBounds_toArray, List.set_cons_zero, List.set_cons_succ, List.getElem_toArray, List.getElem_cons_succ, List.getElem_cons_zero]
                      refine wpAnyH_take (i := 15) (oi := _) (v := ?_) rfl (by kernel_rfl) (by kernel_rfl) (by kernel_rfl) (fun _ _ _ h => h) (Or.inl ⟨by rfl, ?_⟩) (by assumption) ?_
                      rotate_left
                      · first | (intro w hSw; (try dsimp only at hSw); go_simp; done) | (intro w hSw; (try dsimp only at hSw); go_simp; with_reducible rfl)
                      try simp only [Act.put, List.setIfInBounds_toArray, List.set_cons_zero, List.set_cons_succ, List.getElem_toArray, List.getElem_cons_succ, List.getElem_cons_zero]
                      refine wpAnyH_take (i := 16) (oi := _) (v := ?_) rfl (by kernel_rfl) (by kernel_rfl) (by kernel_rfl) (fun _ _ _ h => h) (Or.inl ⟨by rfl, ?_⟩) (by assumption) ?_
                      rotate_left
                      · first | (intro w hSw; (try dsimp only at hSw); go_simp; done) | (intro w hSw; (try dsimp only at hSw); go_simp; with_reducible rfl)
                      try simp only [Act.put, List.setIfInBounds_toArray, List.set_cons_zero, List.set_cons_succ, List.getElem_toArray, List.getElem_cons_succ, List.getElem_cons_zero]
                      refine wpAnyH_take (i := 17) (oi := _) (v := ?_) rfl (by kernel_rfl) (by kernel_rfl) (by kernel_rfl) (fun _ _ _ h => h) (Or.inl ⟨by rfl, ?_⟩) (by assumption) ?_
                      rotate_left
                      · first | (intro w hSw; (try dsimp only at hSw); go_simp; done) | (intro w hSw; (try dsimp only at hSw); go_simp; with_reducible rfl)
                      try simp only [Act.put, List.setIfInBounds_toArray, List.set_cons_zero, List.set_cons_succ, List.getElem_toArray, List.getElem_cons_succ, List.getElem_cons_zero]
                      refine wpAnyH_done (by kernel_rfl) ?_ _
                      have SK := Lib.hid sk7
                      have ND := Lib.hid (N5.out.trans N7.out)
                      have TR9 := Lib.hid TY.out
                      have hle9 := LH.out
                      obtain ⟨q0, q1, q2, q3, q4, q5, q6, q7, f5, f6⟩ := SK.out.facts
                      clear sk7 N7 KS KN
                      go_wp2
                      go_roundw
                      case rel => exact ⟨i + 1, s2, by go_num, by omega, hle9, TR9.out.symm, SK, ND⟩
                      case measure => simp [intOf]; omega
                    | out s2 =>
                      obtain ⟨rfl, sk7⟩ := pf7
                      refine wpAnyH_take (i := 13) (oi := _) (v := ?_) rfl (by kernel_rfl) (by kernel_rfl) (by kernel_rfl) (fun _ _ _ h => h) (Or.inl ⟨by rfl, ?_⟩) (by assumption) ?_
                      rotate_left
                      · first | (intro w hSw; (try dsimp only at hSw); go_simp; done) | (intro w hSw; (try dsimp only at hSw); go_simp; with_reducible rfl)
                      try simp only [Act.put, List.setIfInBounds_toArray, List.set_cons_zero, List.set_cons_succ, List.getElem_toArray, List.getElem_cons_succ, List.getElem_cons_zero]
                      refine wpAnyH_take (i := 14) (oi := _) (v := ?_) rfl (by kernel_rfl) (by kernel_rfl) (by kernel_rfl) (fun _ _ _ h => h) (Or.inl ⟨by rfl, ?_⟩) (by assumption) ?_
                      rotate_left
                      · first | (intro w hSw; (try dsimp only at hSw); go_simp; done) | (intro w hSw; (try dsimp only at hSw); go_simp; with_reducible rfl)
                      try simp only [Act.put, List.setIfInBounds_toArray, List.set_cons_zero, List.set_cons_succ, List.getElem_toArray, List.getElem_cons_succ, List.getElem_cons_zero]
                      refine wpAnyH_take (i := 15) (oi := _) (v := ?_) rfl (by kernel_rfl) (by kernel_rfl) (by kernel_rfl) (fun _ _ _ h => h) (Or.inl ⟨by rfl, ?_⟩) (by assumption) ?_
                      rotate_left
                      · first | (intro w hSw; (try dsimp only at hSw); go_simp; done) | (intro w hSw; (try dsimp only at hSw); go_simp; with_reducible rfl)
                      try simp only [Act.put, List.setIfInBounds_toArray, List.set_cons_zero, List.set_cons_succ, List.getElem_toArray, List.getElem_cons_succ, List.getElem_cons_zero]
                      refine wpAnyH_take (i := 16) (oi := _) (v := ?_) rfl (by kernel_rfl) (by kernel_rfl) (by kernel_rfl) (fun _ _ _ h => h) (Or.inl ⟨by rfl, ?_⟩) (by assumption) ?_
                      rotate_left
                      · first | (intro w hSw; (try dsimp only at hSw); go_simp; done) | (intro w hSw; (try dsimp only at hSw); go_simp; with_reducible rfl)
                      try simp only [Act.put, List.setIfInBounds_toArray, List.set_cons_zero, List.set_cons_succ, List.getElem_toArray, List.getElem_cons_succ, List.getElem_cons_zero]
                      refine wpAnyH_take (i := 17) (oi := _) (v := ?_) rfl (by kernel_rfl) (by kernel_rfl) (by kernel_rfl) (fun _ _ _ h => h) (Or.inl ⟨by rfl, ?_⟩) (by assumption) ?_
                      rotate_left
                      · first | (intro w hSw; (try dsimp only at hSw); go_simp; done) | (intro w hSw; (try dsimp only at hSw); go_simp; with_reducible rfl)
                      try simp only [Act.put, List.setIfInBounds_toArray, List.set_cons_zero, List.set_cons_succ, List.getElem_toArray, List.getElem_cons_succ, List.getElem_cons_zero]
                      refine wpAnyH_done (by kernel_rfl) ?_ _
                      have SK := Lib.hid sk7
                      have NN := Lib.hid (NW.out.trans N7.out)
                      have TR9 := Lib.hid TY.out
                      obtain ⟨q0, q1, q2, q3, q4, q5, q6, q7, f5, f6⟩ := SK.out.facts
                      clear sk7 N7 KS KN
                      go_wp2
                      refine bodyPost_ret (v := .tuple #[v7, .bool false]) (by simp [results, Try.results21, go_sem]) rfl ⟨_, false, rfl, by rw [TR9.out]; exact ⟨rfl, SK.out⟩, NN.out⟩
                · go_simp
                  refine hK.out _ _ ?_ (fun hHeld => ?_)
                  · exact KS.out _ (bA (Below.refl wr.heap.size wr) (.cells #[.int .i64 id, .int .i64 z] 62)).drew
                  clear hK K
                  refine wpAnyH_ready (rs := [1]) (by kernel_rfl) (by simp) ?_
                  refine AllReadyH.cons rfl (fun K hK => ?_) AllReadyH.nil
                  go_simp
                  refine hK.out _ _ ?_ (fun hHeld => ?_)
                  · exact KS.out _ (bA (bA (Below.refl wr.heap.size wr) (.cells #[.int .i64 id, .int .i64 z] 62)) (.cells #[] 62)).drew
                  clear hK K
                  refine wpAnyH_ready (rs := [3]) (by kernel_rfl) (by simp) ?_
                  refine AllReadyH.cons rfl (fun K hK => ?_) AllReadyH.nil
                  obtain ⟨v3, w3, hr3, ow3, gr3, lo3⟩ := app27 (show (((wr.alloc (.cells #[.int .i64 id, .int .i64 z] 62)).alloc (.cells #[] 62)).drew).ownsRow wr.heap.size 62 2 (.slice (some ⟨wr.heap.size + 1, 0, none⟩) 0 0) ([] : List LPl).length (enCells []) from own_e34' wr (.cells #[.int .i64 id, .int .i64 z] 62)) (pcap := pcap) (PX.out _ (bA (bA (Below.refl wr.heap.size wr) _) _).drew) (by first | omega | (simp; done) | (simp; omega)) (by first | omega | (simp; done) | (simp; omega))
                  rw [HM.out] at hr3
                  have B3 := Lib.hid (((bA (bA (Below.refl wr.heap.size wr) (.cells #[.int .i64 id, .int .i64 z] 62)) (.cells #[] 62)).drew).grown gr3 (by first | omega | (simp; done) | (simp; omega)) lo3)
                  --
                  refine step_append_run _ rfl (.tmp 100) (.tmp 101) 30 30 rfl _ _ (by simp [Act.eval]) (by simp [Act.eval]) _ _ hr3 ?_
                  refine hK.out _ _ ?_ (fun hHeld => ?_)
                  · exact KS.out _ B3.out
                  clear hK K
                  try simp only [Act.put, List.setIfInBounds_toArray, List.set_cons_zero, List.set_cons_succ, List.getElem_toArray, List.getElem_cons_succ, List.getElem_cons_zero]
                  rw [List.nil_append] at ow3
                  have hs3 := B3.out.size
                  have hlit : Pls w3 (some ⟨wr.heap.size, 0, none⟩) [(id, z)] := litK27 ((Pls.below (lit27 wr id z) (bA0 _ _)).below (Below.refl _ _).drew) gr3 (by simp [Value.ownBlock])
                  refine wpAnyH_ready (rs := [11]) (by kernel_rfl) (by simp) ?_
                  refine AllReadyH.cons rfl (fun K hK => ?_) AllReadyH.nil
                  obtain ⟨v4, w4, hr4, ow4, gr4, lo4⟩ := app27 (ow3) (pcap := 1) (hlit) (by first | omega | (simp; done) | (simp; omega)) (by first | omega | (simp; done) | (simp; omega))
                  have B4 := Lib.hid ((B3.out).grown gr4 (by first | omega | (simp; done) | (simp; omega)) lo4)
                  --
                  refine step_append_run _ rfl (.tmp 102) (.tmp 109) 30 30 rfl _ _ (by simp [Act.eval]) (by simp [Act.eval]) _ _ hr4 ?_
                  refine hK.out _ _ ?_ (fun hHeld => ?_)
                  · exact KS.out _ B4.out
                  clear hK K
                  try simp only [Act.put, List.setIfInBounds_toArray, List.set_cons_zero, List.set_cons_succ, List.getElem_toArray, List.getElem_cons_succ, List.getElem_cons_zero]
                  have O9 := Lib.hid ow4
                  have hn9 := Lib.hid (E9.out v4 w4 B4.out O9.out)
                  refine wpAnyH_ready (rs := [12]) (by kernel_rfl) (by simp) ?_
                  refine AllReadyH.cons rfl (fun K hK => ?_) AllReadyH.nil
                  go_simp
                  go_wp2_with (go_at_call 21; refine hn9.out.mono ?_; rintro e w7 ⟨v7, ok7, rfl, pf7, on7⟩)
                  have N7 := Lib.hid ((Onl.of_below B4.out).trans on7)
                  clear on7 hn9
                  refine hK.out _ _ ?_ (fun hHeld => ?_)
                  · exact KN.out _ N7.out
                  clear hK K
                  cases r9 with
                  | found p s2 =>
                    obtain ⟨rfl, ⟨ps7, pc7, rfl, pn7⟩, sk7⟩ := pf7
                    refine wpAnyH_take (i := 13) (oi := _) (v := ?_) rfl (by kernel_rfl) (by kernel_rfl) (by kernel_rfl) (fun _ _ _ h => h) (Or.inl ⟨by rfl, ?_⟩) (by assumption) ?_
                    rotate_left
                    · first | (intro w hSw; (try dsimp only at hSw); go_simp; done) | (intro w hSw; (try dsimp only at hSw); go_simp; with_reducible rfl)
                    try simp only [Act.put, List.setIfInBounds_toArray, List.set_cons_zero, List.set_cons_succ, List.getElem_toArray, List.getElem_cons_succ, List.getElem_cons_zero]
                    refine wpAnyH_take (i := 14) (oi := _) (v := ?_) rfl (by kernel_rfl) (by kernel_rfl) (by kernel_rfl) (fun _ _ _ h => h) (Or.inl ⟨by rfl, ?_⟩) (by assumption) ?_
                    rotate_left
                    · first | (intro w hSw; (try dsimp only at hSw); go_simp; done) | (intro w hSw; (try dsimp only at hSw); go_simp; with_reducible rfl)
                    try simp only [Act.put, List.setIfInBounds_toArray, List.set_cons_zero, List.set_cons_succ, List.getElem_toArray, List.getElem_cons_succ, List.getElem_cons_zero]
                    refine wpAnyH_take (i := 15) (oi := _) (v := ?_) rfl (by kernel_rfl) (by kernel_rfl) (by kernel_rfl) (fun _ _ _ h => h) (Or.inl ⟨by rfl, ?_⟩) (by assumption) ?_
                    rotate_left
                    · first | (intro w hSw; (try dsimp only at hSw); go_simp; done) | (intro w hSw; (try dsimp only at hSw); go_simp; with_reducible rfl)
                    try simp only [Act.put, List.setIfInBounds_toArray, List.set_cons_zero, List.set_cons_succ, List.getElem_toArray, List.getElem_cons_succ, List.getElem_cons_zero]
                    refine wpAnyH_take (i := 16) (oi := _) (v := ?_) rfl (by kernel_rfl) (by kernel_rfl) (by kernel_rfl) (fun _ _ _ h => h) (Or.inl ⟨by rfl, ?_⟩) (by assumption) ?_
                    rotate_left
                    · first | (intro w hSw; (try dsimp only at hSw); go_simp; done) | (intro w hSw; (try dsimp only at hSw); go_simp; with_reducible rfl)
                    try simp only [Act.put, List.setIfInBounds_toArray, List.set_cons_zero, List.set_cons_succ, List.getElem_toArray, List.getElem_cons_succ, List.getElem_cons_zero]
                    refine wpAnyH_take (i := 17) (oi := _) (v := ?_) rfl (by kernel_rfl) (by kernel_rfl) (by kernel_rfl) (fun _ _ _ h => h) (Or.inl ⟨by rfl, ?_⟩) (by assumption) ?_
                    rotate_left
                    · first | (intro w hSw; (try dsimp only at hSw); go_simp; done) | (intro w hSw; (try dsimp only at hSw); go_simp; with_reducible rfl)
                    try simp only [Act.put, List.setIfInBounds_toArray, List.set_cons_zero, List.set_cons_succ, List.getElem_toArray, List.getElem_cons_succ, List.getElem_cons_zero]
                    refine wpAnyH_done (by kernel_rfl) ?_ _
                    have PF := Lib.hid (And.intro pn7 sk7)
                    have NN := Lib.hid (NW.out.trans N7.out)
                    have TR9 := Lib.hid TY.out
                    clear pn7 sk7 N7 KS KN
                    go_wp2
                    refine bodyPost_ret (v := .tuple #[.slice ps7 p.length pc7, .bool true]) (by simp [results, Try.results21, go_sem]) rfl ⟨_, true, rfl, by rw [TR9.out]; exact ⟨rfl, ⟨_, _, rfl, PF.out.1⟩, PF.out.2⟩, NN.out⟩
                  | none s2 =>
                    obtain ⟨rfl, sk7⟩ := pf7
                    refine wpAnyH_take (i := 13) (oi := _) (v := ?_) rfl (by kernel_rfl) (by kernel_rfl) (by kernel_rfl) (fun _ _ _ h => h) (Or.inl ⟨by rfl, ?_⟩) (by assumption) ?_
                    rotate_left
                    · first | (intro w hSw; (try dsimp only at hSw); go_simp; done) | (intro w hSw; (try dsimp only at hSw); go_simp; with_reducible rfl)
                    try simp only [Act.put, List.setIfInBounds_toArray, List.set_cons_zero, List.set_cons_succ, List.getElem_toArray, List.getElem_cons_succ, List.getElem_cons_zero]
                    refine wpAnyH_take (i := 14) (oi := _) (v := ?_) rfl (by kernel_rfl) (by kernel_rfl) (by kernel_rfl) (fun _ _ _ h => h) (Or.inl ⟨by rfl, ?_⟩) (by assumption) ?_
                    rotate_left
                    · first | (intro w hSw; (try dsimp only at hSw); go_simp; done) | (intro w hSw; (try dsimp only at hSw); go_simp; with_reducible rfl)
                    try simp only [Act.put, List.setIfInBounds_toArray, List.set_cons_zero, List.set_cons_succ, List.getElem_toArray, List.getElem_cons_succ, List.getElem_cons_zero]
                    refine wpAnyH_take (i := 15) (oi := _) (v := ?_) rfl (by kernel_rfl) (by kernel_rfl) (by kernel_rfl) (fun _ _ _ h => h) (Or.inl ⟨by rfl, ?_⟩) (by assumption) ?_
                    rotate_left
                    · first | (intro w hSw; (try dsimp only at hSw); go_simp; done) | (intro w hSw; (try dsimp only at hSw); go_simp; with_reducible rfl)
                    try simp only [Act.put, List.setIfInBounds_toArray, List.set_cons_zero, List.set_cons_succ, List.getElem_toArray, List.getElem_cons_succ, List.getElem_cons_zero]
                    refine wpAnyH_take (i := 16) (oi := _) (v := ?_) rfl (by kernel_rfl) (by kernel_rfl) (by kernel_rfl) (fun _ _ _ h => h) (Or.inl ⟨by rfl, ?_⟩) (by assumption) ?_
                    rotate_left
                    · first | (intro w hSw; (try dsimp only at hSw); go_simp; done) | (intro w hSw; (try dsimp only at hSw); go_simp; with_reducible rfl)
                    try simp only [Act.put, List.setIfInBounds_toArray, List.set_cons_zero, List.set_cons_succ, List.getElem_toArray, List.getElem_cons_succ, List.getElem_cons_zero]
                    refine wpAnyH_take (i := 17) (oi := _) (v := ?_) rfl (by kernel_rfl) (by kernel_rfl) (by kernel_rfl) (fun _ _ _ h => h) (Or.inl ⟨by rfl, ?_⟩) (by assumption) ?_
                    rotate_left
                    · first | (intro w hSw; (try dsimp only at hSw); go_simp; done) | (intro w hSw; (try dsimp only at hSw); go_simp; with_reducible rfl)
                    try simp only [Act.put, List.setIfInBounds_toArray, List.set_cons_zero, List.set_cons_succ, List.getElem_toArray, List.getElem_cons_succ, List.getElem_cons_zero]
                    refine wpAnyH_done (by kernel_rfl) ?_ _
                    have SK := Lib.hid sk7
                    have ND := Lib.hid (N5.out.trans N7.out)
                    have TR9 := Lib.hid TY.out
                    have hle9 := LH.out
                    obtain ⟨q0, q1, q2, q3, q4, q5, q6, q7, f5, f6⟩ := SK.out.facts
                    clear sk7 N7 KS KN
                    go_wp2
                    go_roundw
                    case rel => exact ⟨i + 1, s2, by go_num, by omega, hle9, TR9.out.symm, SK, ND⟩
                    case measure => simp [intOf]; omega
                  | out s2 =>
                    obtain ⟨rfl, sk7⟩ := pf7
                    refine wpAnyH_take (i := 13) (oi := _) (v := ?_) rfl (by kernel_rfl) (by kernel_rfl) (by kernel_rfl) (fun _ _ _ h => h) (Or.inl ⟨by rfl, ?_⟩) (by assumption) ?_
                    rotate_left
                    · first | (intro w hSw; (try dsimp only at hSw); go_simp; done) | (intro w hSw; (try dsimp only at hSw); go_simp; with_reducible rfl)
                    try simp only [Act.put, List.setIfInBounds_toArray, List.set_cons_zero, List.set_cons_succ, List.getElem_toArray, List.getElem_cons_succ, List.getElem_cons_zero]
                    refine wpAnyH_take (i := 14) (oi := _) (v := ?_) rfl (by kernel_rfl) (by kernel_rfl) (by kernel_rfl) (fun _ _ _ h => h) (Or.inl ⟨by rfl, ?_⟩) (by assumption) ?_
                    rotate_left
                    · first | (intro w hSw; (try dsimp only at hSw); go_simp; done) | (intro w hSw; (try dsimp only at hSw); go_simp; with_reducible rfl)
                    try simp only [Act.put, List.setIfInBounds_toArray, List.set_cons_zero, List.set_cons_succ, List.getElem_toArray, List.getElem_cons_succ, List.getElem_cons_zero]
                    refine wpAnyH_take (i := 15) (oi := _) (v := ?_) rfl (by kernel_rfl) (by kernel_rfl) (by kernel_rfl) (fun _ _ _ h => h) (Or.inl ⟨by rfl, ?_⟩) (by assumption) ?_
                    rotate_left
                    · first | (intro w hSw; (try dsimp only at hSw); go_simp; done) | (intro w hSw; (try dsimp only at hSw); go_simp; with_reducible rfl)
                    try simp only [Act.put, List.setIfInBounds_toArray, List.set_cons_zero, List.set_cons_succ, List.getElem_toArray, List.getElem_cons_succ, List.getElem_cons_zero]
                    refine wpAnyH_take (i := 16) (oi := _) (v := ?_) rfl (by kernel_rfl) (by kernel_rfl) (by kernel_rfl) (fun _ _ _ h => h) (Or.inl ⟨by rfl, ?_⟩) (by assumption) ?_
                    rotate_left
                    · first | (intro w hSw; (try dsimp only at hSw); go_simp; done) | (intro w hSw; (try dsimp only at hSw); go_simp; with_reducible rfl)
                    try simp only [Act.put, List.setIfInBounds_toArray, List.set_cons_zero, List.set_cons_succ, List.getElem_toArray, List.getElem_cons_succ, List.getElem_cons_zero]
                    refine wpAnyH_take (i := 17) (oi := _) (v := ?_) rfl (by kernel_rfl) (by kernel_rfl) (by kernel_rfl) (fun _ _ _ h => h) (Or.inl ⟨by rfl, ?_⟩) (by assumption) ?_
                    rotate_left
                    · first | (intro w hSw; (try dsimp only at hSw); go_simp; done) | (intro w hSw; (try dsimp only at hSw); go_simp; with_reducible rfl)
                    try simp only [Act.put, List.setIfInBounds_toArray, List.set_cons_zero, List.set_cons_succ, List.getElem_toArray, List.getElem_cons_succ, List.getElem_cons_zero]
                    refine wpAnyH_done (by kernel_rfl) ?_ _
                    have SK := Lib.hid sk7
                    have NN := Lib.hid (NW.out.trans N7.out)
                    have TR9 := Lib.hid TY.out
                    obtain ⟨q0, q1, q2, q3, q4, q5, q6, q7, f5, f6⟩ := SK.out.facts
                    clear sk7 N7 KS KN
                    go_wp2
                    refine bodyPost_ret (v := .tuple #[v7, .bool false]) (by simp [results, Try.results21, go_sem]) rfl ⟨_, false, rfl, by rw [TR9.out]; exact ⟨rfl, SK.out⟩, NN.out⟩
      · have g1' : ¬ (i : Int) < (zn : Int) := by omega
        have RO : Hid (R = .none s') := by
          show R = _
          rw [← HR2.out]
          exact try_end _ _ _ _ _ _ _ (by rw [hcl.out]; omega)
        have NN := Lib.hid (N1.out.trans HON.out)
        clear HR2 HON
        go_wp2
        refine bodyPost_ret (v := .tuple #[.slice psl m pcap, .bool false]) (by simp [results, Try.results21, go_sem]) rfl ⟨_, false, rfl, by rw [RO.out]; exact ⟨rfl, SK2.out⟩, NN.out⟩
end Go.Proofs.Ytgfclllfkpblnaa
