/-
  NO TWO OF A STATION: impl.notTwo.
-/
import Derived.Test.YtdmfljejlhlbnaaWc
namespace Go.Proofs.Ytdmfljejlhlbnaa
open Go.RowKit
set_option linter.unusedVariables false

def VarB (zs : List Int) : Prop := ∀ z ∈ zs, 0 ≤ z ∧ z ≤ 1048576
theorem cell_at_new' (w : World) (o : Obj) (a : Value) (t : TypeId) : ∀ (j : Nat) (u : Value), [a][j]? = some u → ((w.alloc o).alloc (.cells #[a] t)).cell? ((⟨w.heap.size + 1, 0, none⟩ : Addr).add j) = some u := by
  have := cell_at_new (w.alloc o) a t
  rwa [show (w.alloc o).heap.size = w.heap.size + 1 by simp] at this

set_option maxRecDepth 100000 in
set_option maxHeartbeats 4000000 in
/-- impl.notTwo. -/
theorem nt_any (sl : Option Addr) (cap : Nat) (zs : List Int) (w : World) (hn : zs.length ≤ 1000) (hcap : zs.length ≤ cap) (hv : VarB zs) (hz : Ints w sl zs) :
    Calls Try.prog 85 #[.slice sl zs.length cap] w fun e w' => ∃ v cs, e = .returned v ∧ OwC w' w.heap.size v cs ∧ bareC cs = twoF zs ∧ Below w.heap.size w w' := by
  obtain ⟨i4, hi4, hd0, hd1, hd2⟩ := info_parts info40
  have HZ := Lib.hid hz
  have HV := Lib.hid hv
  clear hz hv
  generalize hN : zs.length = n at *
  have HN := Lib.hid hN
  clear hN
  go_enter Try.func85, Try.ntmps85
  go_wp2
  go_loopw [3, 10] (fun v i wr => ∃ (k : Nat) (cs : List LCl), i = .int .i64 k ∧ k ≤ n ∧ Hid (OwC wr w.heap.size v cs) ∧ cs.length ≤ k * 1000 ∧ Hid (twoF zs = bareC cs ++ twoF (zs.drop k)) ∧ Hid (Below w.heap.size w wr)) (fun _ i _ => n - (intOf i).toNat)
  case atStart => exact ⟨0, [], rfl, Nat.zero_le _, OwC.nil _ _, Nat.zero_le _, rfl, Below.refl _ _⟩
  case round =>
    obtain ⟨k, cs, rfl, hk, OC, hcl, BC, HB⟩ := hrel
    have hk0 : (0 : Int) ≤ (k : Int) := by omega
    by_cases g1 : k < n
    · have g1' : (k : Int) < (n : Int) := by omega
      have hlt : k < zs.length := by rw [HN.out]; exact g1
      obtain ⟨c, o, rfl, ZI⟩ : ∃ c o, sl = some ⟨c, o, none⟩ ∧ IntsAt w c o zs := by
        rcases HZ.out with e | h
        · rw [e] at hlt; simp at hlt
        · exact h
      have hc := (HB.out.cell (p := ⟨c, o + k, none⟩) ZI.1).trans (ZI.2 k hlt)
      have hxb := HV.out (zs.getD k 0) (by rw [List.getD_eq_getElem?_getD, List.getElem?_eq_getElem hlt]; exact List.getElem_mem hlt)
      have DS := Lib.hid (show twoF (zs.drop k) = (zs.drop (k + 1)).map (fun y => [-(zs.getD k 0), -y]) ++ twoF (zs.drop (k + 1)) by
        rw [← List.getElem_cons_drop (h := hlt), twoF]; simp [hlt])
      have ZA := Lib.hid ZI
      clear ZI hlt
      generalize zs.getD k 0 = x at *
      obtain ⟨x0, x1⟩ := hxb
      obtain ⟨vsl, vcap, rfl⟩ := OC.out.v
      obtain ⟨w1, hw1⟩ : ∃ w1, w1 = wr := ⟨_, rfl⟩
      rw [← hw1] at OC HB hc ⊢
      clear hw1
      by_cases hce : cap = k + 1
      · have en : n = k + 1 := by omega
        subst hce
        have BN := Lib.hid (show twoF zs = bareC cs ++ twoF (zs.drop (k + 1)) by rw [BC.out, DS.out, List.drop_of_length_le (by rw [HN.out]; omega)]; rfl)
        clear BC DS
        go_wp2
        go_loopw [3, 20] (fun v i wq => v = .slice vsl cs.length vcap ∧ i = .int .i64 0 ∧ wq = w1) (fun _ _ _ => 0)
        case atStart => exact ⟨rfl, rfl, rfl⟩
        case round =>
          obtain ⟨rfl, rfl, rfl⟩ := hrel
          have g2' : ¬ (0 : Int) < ((n - (k + 1) : Nat) : Int) := by omega
          go_wp2
          go_roundw
          case rel => exact ⟨k + 1, cs, by go_num, by omega, OC, by omega, BN, HB⟩
          case measure => simp [intOf]; omega
      · have hce' : ¬ cap = k + 1 := hce
        have BN := Lib.hid (show twoF zs = (bareC cs ++ (zs.drop (k + 1)).map (fun y => [-x, -y])) ++ twoF (zs.drop (k + 1)) by rw [BC.out, DS.out, List.append_assoc])
        clear BC DS
        have hr : n - (k + 1) + (k + 1) = n := by omega
        go_wp2
        generalize n - (k + 1) = r at *
        go_loopw [3, 20] (fun v i wq => ∃ (m : Nat) (ds : List LCl), i = .int .i64 m ∧ m ≤ r ∧ Hid (OwC wq w.heap.size v ds) ∧ ds.length ≤ k * 1000 + m ∧ Hid (bareC ds = bareC cs ++ ((zs.drop (k + 1)).take m).map (fun y => [-x, -y])) ∧ Hid (Below w.heap.size w wq)) (fun _ i _ => r - (intOf i).toNat)
        case atStart => exact ⟨0, cs, rfl, Nat.zero_le _, OC, by omega, (by show bareC cs = bareC cs ++ _; simp), HB⟩
        case round =>
          obtain ⟨m, ds, rfl, hm, OD, hdl, BD, HD⟩ := hrel
          have hm0 : (0 : Int) ≤ (m : Int) := by omega
          by_cases g2 : m < r
          · have g2' : (m : Int) < (r : Int) := by omega
            have hlt : k + 1 + m < zs.length := by rw [HN.out]; omega
            have hc2 := (HD.out.cell (p := ⟨c, o + (k + 1 + m), none⟩) ZA.out.1).trans (ZA.out.2 (k + 1 + m) hlt)
            have hyb := HV.out (zs.getD (k + 1 + m) 0) (by rw [List.getD_eq_getElem?_getD, List.getElem?_eq_getElem hlt]; exact List.getElem_mem hlt)
            have TS := Lib.hid (show ((zs.drop (k + 1)).take (m + 1)).map (fun y => [-x, -y]) = ((zs.drop (k + 1)).take m).map (fun y => [-x, -y]) ++ [[-x, -(zs.getD (k + 1 + m) 0)]] by
              rw [List.take_succ_eq_append_getElem (by rw [List.length_drop]; omega), List.map_append]
              simp [hlt])
            rw [show o + (k + 1 + m) = o + (k + 1) + m by omega] at hc2
            clear hlt
            generalize zs.getD (k + 1 + m) 0 = y at *
            obtain ⟨y0, y1⟩ := hyb
            obtain ⟨dsl, dcap, rfl⟩ := OD.out.v
            have ON := Lib.hid ((own_two wr (-x) (-y)).alloc (.cells #[.slice (some ⟨wr.heap.size, 0, none⟩) 2 2] 40))
            have CV := Lib.hid ((OD.out.row.alloc (.cells #[.int .i64 (-x), .int .i64 (-y)] 2)).alloc (.cells #[.slice (some ⟨wr.heap.size, 0, none⟩) 2 2] 40))
            have OL := Lib.hid (show ∀ j, (Value.slice dsl ds.length dcap).ownBlock = some j → w.heap.size ≤ j from fun j hj => (OD.out.row.lt j hj).1)
            have hws := HD.out.size
            have hdl2 : ds.length ≤ 1001000 := by omega
            go_wp2_with (first | (at_builtin; refine wpList_append_lies _ rfl (.tmp 24) (.tmp 30) 43 rfl w.heap.size 40 i4 (.slice none 0 0) 1 24 Try.underlying43 hi4 hd0 hd1 hd2 rfl (by decide) _ _ _ rfl CV.out ⟨wr.heap.size + 1, 0, none⟩ 1 1 [.slice (some ⟨wr.heap.size, 0, none⟩) 2 2] (by simp [Act.eval]) rfl (cell_at_new' _ _ _ _) (by intro u hu; simp at hu; subst hu; rfl) (by decide) (by unfold maxLen; omega) (by omega) (by simp; omega) (wr.heap.size + 2) (by simp) ?_))
            intro g9 cap9 w9 own9 grow9 hg9 hlt9
            have BA := Lib.hid (bA (bA0 wr (.cells #[.int .i64 (-x), .int .i64 (-y)] 2)) (.cells #[.slice (some ⟨wr.heap.size, 0, none⟩) 2 2] 40))
            have N9 : Hid (OwC w9 w.heap.size (.slice (some ⟨g9, 0, none⟩) (ds.length + 1) cap9) (ds ++ [(.slice (some ⟨wr.heap.size, 0, none⟩) 2 2, [-x, -y])])) :=
              OD.out.new BA.out (own_mono ON.out hws) (fun j hj => (ON.out.lt j hj).1) grow9 own9
            have B9 := Lib.hid ((bA (bA HD.out (.cells #[.int .i64 (-x), .int .i64 (-y)] 2)) (.cells #[.slice (some ⟨wr.heap.size, 0, none⟩) 2 2] 40)).grown grow9 (by simp; omega) (fun j hj => OL.out j hj))
            have BN9 : Hid (bareC (ds ++ [(.slice (some ⟨wr.heap.size, 0, none⟩) 2 2, [-x, -y])]) = bareC cs ++ ((zs.drop (k + 1)).take (m + 1)).map (fun y => [-x, -y])) := by rw [TS.out, bareC_add, BD.out, List.append_assoc]; rfl
            have LN : (ds ++ [((Value.slice (some ⟨wr.heap.size, 0, none⟩) 2 2, [-x, -y]) : LCl)]).length ≤ k * 1000 + (m + 1) := by rw [List.length_append]; simp; omega
            clear own9 grow9 hg9 hlt9 CV OL BA ON OD HD BD TS
            generalize ds ++ [((Value.slice (some ⟨wr.heap.size, 0, none⟩) 2 2, [-x, -y]) : LCl)] = ds9 at *
            go_wp2
            go_roundw
            case rel => exact ⟨m + 1, ds9, by go_num, by omega, N9, LN, BN9, B9⟩
            case measure => simp [intOf]; omega
          · have g2' : ¬ (m : Int) < (r : Int) := by omega
            have P := Lib.hid (show twoF zs = bareC ds ++ twoF (zs.drop (k + 1)) by
              rw [BN.out, BD.out, List.take_of_length_le (by rw [List.length_drop, HN.out]; omega)])
            have LN : ds.length ≤ (k + 1) * 1000 := by omega
            clear BD BN OC
            go_wp2
            go_roundw
            case rel => exact ⟨k + 1, ds, by go_num, by omega, OD, LN, P, HD⟩
            case measure => simp [intOf]; omega
    · have g1' : ¬ (k : Int) < (n : Int) := by omega
      have P := Lib.hid (show bareC cs = twoF zs by rw [BC.out, List.drop_of_length_le (by rw [HN.out]; omega)]; simp [twoF])
      clear BC
      go_wp2
      go_ret
      exact ⟨_, rfl, cs, OC.out, P.out, HB.out⟩
end Go.Proofs.Ytdmfljejlhlbnaa
