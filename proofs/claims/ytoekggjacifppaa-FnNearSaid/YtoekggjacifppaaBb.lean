/-
  A STATION'S NEIGHBOURS: the program's answer.
-/
import Derived.Test.YtoekggjacifppaaBa
import Derived.Test.YtoekggjacifppaaAl
namespace Go.Proofs.Ytoekggjacifppaa
open Go.RowKit
set_option linter.unusedVariables false

/-- Two ends in a block of their own. -/
def EAt (w : World) (b : Nat) (x y : Int) : Prop := w.heap[b]? = some (.cells #[.int .i64 x, .int .i64 y] 89)
theorem EAt.lt {w : World} {b : Nat} {x y : Int} (h : EAt w b x y) : b < w.heap.size := (Array.getElem?_eq_some_iff.1 h).1
theorem EAt.cells {w : World} {b : Nat} {x y : Int} (h : EAt w b x y) : w.cell? ⟨b, 0, none⟩ = some (.int .i64 x) ∧ w.cell? ⟨b, 1, none⟩ = some (.int .i64 y) := by
  unfold EAt at h
  constructor <;> simp [World.cell?, h]
theorem EAt.grow {w : World} {b : Nat} {x y : Int} (h : EAt w b x y) {o : Obj} {w' : World} {v : Value} (hg : (w.alloc o).grownBy w' v.ownBlock) (hv : v.ownBlock ≠ some b) : EAt w' b x y :=
  (hg.block b (by simp; exact Nat.lt_succ_of_lt h.lt) (fun e => hv e.symm)).trans ((Below.heap_alloc _ _ _ h.lt).trans h)
theorem own_ends {w : World} {C n : Nat} {sl : Option Addr} {cap : Nat} {ks : List (Int × Int)} (h : w.ownsRow C 89 2 (.slice sl n cap) n (enCells ks)) (hn : n = ks.length) (k : Nat) (hk : k < ks.length) :
    ∃ g, sl = some ⟨g, 0, none⟩ ∧ w.cell? ⟨g, k * 2, none⟩ = some (.int .i64 ks[k].1) ∧ w.cell? ⟨g, k * 2 + 1, none⟩ = some (.int .i64 ks[k].2) ∧ g < w.heap.size := by
  have h2 := h
  rcases h.2 with ⟨_, h0⟩ | ⟨g, cp3, cur, hv, hb3, hg3, _⟩
  · omega
  · have e := enCells_at ks k hk
    obtain rfl : sl = some ⟨g, 0, none⟩ := (Value.slice.inj hv).1
    exact ⟨g, rfl, by rw [h2.cellAt (k * 2) (by omega), e.1], by rw [h2.cellAt (k * 2 + 1) (by omega), e.2], (Array.getElem?_eq_some_iff.1 hg3).1⟩

set_option maxRecDepth 100000 in
set_option maxHeartbeats 1000000 in
/-- impl.TableNear. -/
theorem itn_any (sl : Option Addr) (cap : Nat) (sl2 : Option Addr) (cap2 : Nat) (rs : List LSt) (ps : List LPr) (id : Int) (w : World) (hn : rs.length ≤ 1048576) (hz : Sts w sl rs) (hp : Prs w sl2 ps) (hw : ∀ p ∈ ps, WfP p) :
    Calls Try.prog 18 #[TV sl rs.length cap sl2 ps.length cap2, .int .i64 id] w fun e w' => ∃ v, e = .returned v ∧ w'.ownsRow w.heap.size 2 1 v (nearA rs ps id).length (valsZ (nearA rs ps id)) ∧ Below w.heap.size w w' := by
  obtain ⟨i0, hi0, hz0, hz1, hz2⟩ := info_parts info2'
  have E1 := Lib.hid (itr_any sl cap sl2 cap2 rs ps (w.alloc (.cells #[.slice sl rs.length cap, .slice sl2 ps.length cap2] 26)) (hz.below (bA0 _ _)) (hp.below (bA0 _ _)) hw)
  have HT := Lib.hid (TabAt.new w sl rs.length cap sl2 ps.length cap2)
  have B0 := Lib.hid (bA0 w (.cells #[.slice sl rs.length cap, .slice sl2 ps.length cap2] 26))
  have HW := Lib.hid hw
  have HP := Lib.hid hp
  clear hz hp hw
  unfold nearA
  cases hb : B (TabR rs ps) with
  | false =>
    rw [hb] at E1
    simp only [Bool.false_eq_true, if_false]
    generalize rs.length = n at *
    generalize ps.length = m at *
    clear hb
    go_enter Try.func18, Try.ntmps18
    go_wp2_with fail
    refine E1.out.mono ?_
    rintro e w1 ⟨rfl, b1⟩
    have D1 := Lib.hid (bT B0.out b1)
    clear b1 E1
    go_wp2
    go_ret
    exact ⟨_, rfl, ⟨rfl, .inl ⟨rfl, rfl⟩⟩, D1.out⟩
  | true =>
    rw [hb] at E1
    simp only [if_true]
    have TR := Lib.hid (B_true hb)
    have hm40 : ps.length ≤ 40 := TR.out.1.2.2
    have KS : Hid (∀ W, Below w.heap.size w W → Calls Try.prog 61 #[.slice sl2 ps.length cap2] W fun e w' => e = .returned (.map (some W.heap.size)) ∧ w'.ownsMap Try.prog 89 (plainElem (H := Unit) Try.prog 2) W.heap.size ps.length (Kd ps) ∧ Below W.heap.size W w') := fun W hW => ks_any sl2 cap2 ps W (by omega) (HP.out.below hW) HW.out
    have OI : Hid (∀ ks : List (Int × Int), ks.Pairwise Lt2 → (∀ x ∈ ks, wfI x.1 ∧ wfI x.2) → (∀ x, wfI x.1 ∧ wfI x.2 → (x ∈ ks ↔ Maps.has (Kd ps) (kOf x) = true)) → ps.map ends = ks ∧ ks.length ≤ 40 ∧ ∀ x ∈ ks, x.1 < x.2) := fun ks a b c => by
      have e := (order_iff HW.out a b (fun x hx => (c x hx).trans (Kd_has ps HW.out x hx))).2 TR.out.2.2.2.2
      refine ⟨e, by rw [← e, List.length_map]; exact hm40, fun x hx => ?_⟩
      rw [← e] at hx
      obtain ⟨p, hp, rfl⟩ := List.mem_map.1 hx
      exact (TR.out.2.2.2.1 p hp).1
    generalize hA : (ps.map ends).flatMap (nearF id) = ans
    have HA := Lib.hid hA
    clear hA
    generalize rs.length = n at *
    generalize ps.length = m at *
    clear hb
    go_enter Try.func18, Try.ntmps18
    go_wp2_with fail
    refine E1.out.mono ?_
    rintro e w1 ⟨rfl, b1⟩
    have D1 := Lib.hid (bT B0.out b1)
    have T1 := Lib.hid (HT.out.below b1)
    obtain ⟨t0, t1⟩ := T1.out.cells
    have tl := T1.out.lt
    clear b1 E1 HT
    go_wp2_with fail
    refine (KS.out _ D1.out).mono ?_
    rintro e w2 ⟨rfl, m2, b2⟩
    have SE := Lib.hid (se_any w1.heap.size m (Kd ps) w2 (by omega) m2)
    have D2 := Lib.hid (bT D1.out b2)
    clear m2 b2 t0 t1 tl T1 KS
    go_wp2_with fail
    refine SE.out.mono ?_
    rintro e w3 ⟨v, ks, rfl, o3, k1, k2, k3, b3⟩
    obtain ⟨ek, hkl, kl⟩ := OI.out ks k1 k2 k3
    have KL := Lib.hid kl
    have HK := Lib.hid ek
    have D3 := Lib.hid (bT D2.out b3)
    have O3 := Lib.hid o3
    obtain ⟨slk, capk, rfl⟩ := own_v o3
    clear o3 b3 k1 k2 k3 ek kl SE OI
    generalize hQ : ks.length = q at *
    have HQ := Lib.hid hQ
    clear hQ
    go_wp2
    go_loopw [5, 16] (fun v i wr => ∃ (k : Nat) (cur : List Int), i = .int .i64 k ∧ k ≤ q ∧ cur.length ≤ k ∧ Hid (cur = (ks.take k).flatMap (nearF id)) ∧ Hid (wr.ownsRow w3.heap.size 2 1 v cur.length (valsZ cur)) ∧ Hid (Below w3.heap.size w3 wr)) (fun _ i _ => q - (intOf i).toNat)
    case atStart => exact ⟨0, [], rfl, Nat.zero_le _, Nat.zero_le _, rfl, ⟨rfl, .inl ⟨rfl, rfl⟩⟩, Below.refl _ _⟩
    case round =>
      obtain ⟨k, cur, rfl, hk, hcl, HC, H1, H2⟩ := hrel
      have hk0 : (0 : Int) ≤ (k : Int) := by omega
      by_cases h1 : k < q
      · have h1' : (k : Int) < (q : Int) := by omega
        have hlt : k < ks.length := by rw [HQ.out]; exact h1
        obtain ⟨g, rfl, c0, c1, gl⟩ := own_ends (own_below O3.out H2.out) HQ.out.symm k hlt
        have hab := KL.out ks[k] (List.getElem_mem hlt)
        have FS := Lib.hid (flat_step (nearF id) ks k hlt)
        rw [← HC.out] at FS
        obtain ⟨a, b, hp⟩ : ∃ a b, ks[k] = (a, b) := ⟨_, _, rfl⟩
        rw [hp] at c0 c1 hab FS
        dsimp only at c0 c1 hab
        clear hp hlt HC
        have S5 := Lib.hid (show EAt (wr.alloc (.cells #[.int .i64 a, .int .i64 b] 89)) wr.heap.size a b from new_at _ _)
        have O5 := Lib.hid (H1.out.alloc (.cells #[.int .i64 a, .int .i64 b] 89))
        have G5 := Lib.hid (bA H2.out (.cells #[.int .i64 a, .int .i64 b] 89))
        have hsw := H2.out.size
        have NE := Lib.hid (own_apart O5.out S5.out (by decide))
        have hs5 := G5.out.size
        clear H1 H2
        by_cases e2 : b = id
        · have e2' : (b == id) = true := by simp [e2]
          have e1n : a ≠ id := by omega
          have e1' : (a == id) = false := by simp; omega
          have HN2 := Lib.hid (show cur ++ [a] = (ks.take (k + 1)).flatMap (nearF id) by rw [FS.out]; simp [nearF, e2])
          have EV := Lib.hid (show valsZ cur ++ [.int .i64 a] = valsZ (cur ++ [a]) by simp [valsZ])
          clear FS
          subst e2
          go_wp2_with (first | (at_builtin; refine wpList_append_lies _ rfl (.tmp 24) (.tmp 27) 29 rfl w3.heap.size 2 i0 (.int .i64 0) 1 8 Try.underlying29 hi0 hz0 hz1 hz2 rfl (by decide) _ _ _ rfl (O5.out.alloc _) ⟨wr.heap.size + 1, 0, none⟩ 1 1 [.int .i64 a] (by simp [Act.eval]) rfl (cell_one_new' _ _ _ _) (by intro u hu; simp at hu; subst hu; rfl) (by decide) (by unfold maxLen; omega) (by omega) (by simp; omega) (wr.heap.size + 2) (by simp) ?_))
          intro g9 cap9 w9 own9 grow9 hg9 hlt9
          have B9 := Lib.hid ((bA G5.out (.cells #[.int .i64 a] 2)).grown grow9 (by simp; omega) (fun j hj => (O5.out.lt j hj).1))
          have S9 := Lib.hid (S5.out.grow grow9 NE.out)
          rw [EV.out] at own9
          have N9 : Hid (w9.ownsRow w3.heap.size 2 1 (.slice (some ⟨g9, 0, none⟩) (cur.length + 1) cap9) (cur ++ [a]).length (valsZ (cur ++ [a]))) := by
            rw [List.length_append]; exact own9
          have LL := Lib.hid (show (cur ++ [a]).length ≤ k + 1 by rw [List.length_append]; simp; omega)
          have x5 := S9.out.lt
          obtain ⟨y0, y1⟩ := S9.out.cells
          clear own9 grow9 hg9 hlt9 O5 S5 G5 EV NE
          go_wp2
          go_roundw
          case rel => exact ⟨k + 1, cur ++ [a], by go_num, by omega, LL.out, HN2, N9, B9⟩
          case measure => simp [intOf]; omega
        · have e2' : (b == id) = false := by simp [e2]
          by_cases e1 : a = id
          · have e1' : (a == id) = true := by simp [e1]
            have HN2 := Lib.hid (show cur ++ [b] = (ks.take (k + 1)).flatMap (nearF id) by rw [FS.out]; simp [nearF, e2, e1])
            have EV := Lib.hid (show valsZ cur ++ [.int .i64 b] = valsZ (cur ++ [b]) by simp [valsZ])
            clear FS
            subst e1
            go_wp2_with (first | (at_builtin; refine wpList_append_lies _ rfl (.tmp 33) (.tmp 36) 29 rfl w3.heap.size 2 i0 (.int .i64 0) 1 8 Try.underlying29 hi0 hz0 hz1 hz2 rfl (by decide) _ _ _ rfl (O5.out.alloc _) ⟨wr.heap.size + 1, 0, none⟩ 1 1 [.int .i64 b] (by simp [Act.eval]) rfl (cell_one_new' _ _ _ _) (by intro u hu; simp at hu; subst hu; rfl) (by decide) (by unfold maxLen; omega) (by omega) (by simp; omega) (wr.heap.size + 2) (by simp) ?_))
            intro g9 cap9 w9 own9 grow9 hg9 hlt9
            have B9 := Lib.hid ((bA G5.out (.cells #[.int .i64 b] 2)).grown grow9 (by simp; omega) (fun j hj => (O5.out.lt j hj).1))
            have S9 := Lib.hid (S5.out.grow grow9 NE.out)
            rw [EV.out] at own9
            have N9 : Hid (w9.ownsRow w3.heap.size 2 1 (.slice (some ⟨g9, 0, none⟩) (cur.length + 1) cap9) (cur ++ [b]).length (valsZ (cur ++ [b]))) := by
              rw [List.length_append]; exact own9
            have LL := Lib.hid (show (cur ++ [b]).length ≤ k + 1 by rw [List.length_append]; simp; omega)
            have x5 := S9.out.lt
            obtain ⟨y0, y1⟩ := S9.out.cells
            clear own9 grow9 hg9 hlt9 O5 S5 G5 EV NE
            go_wp2
            go_roundw
            case rel => exact ⟨k + 1, cur ++ [b], by go_num, by omega, LL.out, HN2, N9, B9⟩
            case measure => simp [intOf]; omega
          · have e1' : (a == id) = false := by simp [e1]
            have HN2 := Lib.hid (show cur = (ks.take (k + 1)).flatMap (nearF id) by rw [FS.out]; simp [nearF, e2, e1])
            clear FS
            go_wp2
            go_roundw
            case rel => exact ⟨k + 1, cur, by go_num, by omega, by omega, HN2, O5, G5⟩
            case measure => simp [intOf]; omega
      · have h1' : ¬ (k : Int) < (q : Int) := by omega
        have P := Lib.hid (show cur = ans by rw [HC.out, List.take_of_length_le (by rw [HQ.out]; omega), ← HK.out, HA.out])
        have OP := Lib.hid (own_mono H1.out D3.out.size)
        rw [P.out] at OP
        have DW := Lib.hid (bT D3.out H2.out)
        clear H1 HC P
        go_wp2
        go_ret
        exact ⟨_, rfl, OP.out, DW.out⟩

end Go.Proofs.Ytoekggjacifppaa
