/-
  THE IDS AS THEY STAND, as the program gathers them.
-/
import Derived.Test.YtgfclllfkpblnaaAd
import Derived.Deep.AppendLies
import Derived.WalkSmall
import Derived.OwnWalk
namespace Go.Proofs.Ytgfclllfkpblnaa
open Go.RowKit
set_option linter.unusedVariables false

theorem info2' : (Try.prog.info? 2).map (fun i => (i.zero, i.size, i.bytes)) = some (some (.int .i64 0), 1, 8) := by kernel_rfl

theorem cell_one_new' (w : World) (o : Obj) (a : Value) (t : TypeId) : ∀ (j : Nat) (u : Value), [a][j]? = some u → ((w.alloc o).alloc (.cells #[a] t)).cell? ((⟨w.heap.size + 1, 0, none⟩ : Addr).add j) = some u := by
  have := cell_one_new (w.alloc o) a t
  rwa [show (w.alloc o).heap.size = w.heap.size + 1 by simp] at this

set_option maxHeartbeats 1000000 in
theorem ids_some (c o cap : Nat) (sl2 : Option Addr) (m cap2 : Nat) (rs : List LSt) (w : World) (hn : rs.length ≤ 1048576) (hz : StAt w c o rs) (hd : ∀ r ∈ rs, DomIn w r) :
    Calls Try.prog 35 #[TV (some ⟨c, o, none⟩) rs.length cap sl2 m cap2] w fun e w' => ∃ v, e = .returned v ∧ w'.ownsRow w.heap.size 2 1 v rs.length (valsZ (idsL rs)) ∧ Below w.heap.size w w' := by
  obtain ⟨i0, hi0, hz0, hz1, hz2⟩ := info_parts info2'
  have HZ := Lib.hid (hz.below (bA0 w (.cells #[.slice (some ⟨c, o, none⟩) rs.length cap, .slice sl2 m cap2] 26)))
  have HT := Lib.hid (TabAt.new w (some ⟨c, o, none⟩) rs.length cap sl2 m cap2)
  clear hz
  generalize hN : rs.length = n at *
  have HN := Lib.hid hN
  clear hN
  have B0 := Lib.hid (bA0 w (.cells #[.slice (some ⟨c, o, none⟩) n cap, .slice sl2 m cap2] 26))
  go_enter Try.func35, Try.ntmps35
  go_wp2
  generalize (w.alloc (.cells #[.slice (some ⟨c, o, none⟩) n cap, .slice sl2 m cap2] 26)) = w0 at *
  have HD := Lib.hid (fun r hr => (hd r hr).below B0.out)
  clear hd
  go_loopw [3, 9] (fun v i wr => ∃ k : Nat, i = .int .i64 k ∧ k ≤ n ∧ Hid (wr.ownsRow w0.heap.size 2 1 v k (valsZ ((idsL rs).take k))) ∧ Hid (Below w0.heap.size w0 wr)) (fun _ i _ => n - (intOf i).toNat)
  case atStart => exact ⟨0, rfl, Nat.zero_le _, ⟨rfl, .inl ⟨rfl, rfl⟩⟩, Below.refl _ _⟩
  case round =>
    obtain ⟨k, rfl, hk, H1, H2⟩ := hrel
    have hk0 : (0 : Int) ≤ (k : Int) := by omega
    by_cases h1 : k < n
    · have h1' : (k : Int) < (n : Int) := by omega
      have hlt : k < rs.length := by rw [HN.out]; exact h1
      obtain ⟨hc, hc1, hc2⟩ := (HZ.out.below H2.out).cell k hlt
      obtain ⟨sld, capd, ed, -, -⟩ := HD.out rs[k] (List.getElem_mem hlt)
      rw [ed] at hc2
      have EV := Lib.hid (show valsZ ((idsL rs).take k) ++ [.int .i64 rs[k].1] = valsZ ((idsL rs).take (k + 1)) by
        rw [List.take_add_one, show (idsL rs)[k]? = some rs[k].1 by simp [idsL, hlt]]
        simp [valsZ])
      generalize rs[k].1 = z at *
      generalize rs[k].2.1 = y at *
      generalize rs[k].2.2.2.length = q at *
      clear hlt ed
      have hown := Lib.hid (H1.out.alloc (.cells #[.int .i64 z, .int .i64 y, .slice sld q capd] 67))
      have hs := H2.out.size
      go_wp2_with (first | (at_builtin; refine wpList_append_lies _ rfl (.tmp 13) (.tmp 16) 27 rfl w0.heap.size 2 i0 (.int .i64 0) 1 8 Try.underlying27 hi0 hz0 hz1 hz2 rfl (by decide) _ _ _ rfl (hown.out.alloc _) ⟨wr.heap.size + 1, 0, none⟩ 1 1 [.int .i64 z] (by simp [Act.eval]) rfl (cell_one_new' _ _ _ _) (by intro u hu; simp at hu; subst hu; rfl) (by decide) (by unfold maxLen; omega) (by omega) (by simp; omega) (wr.heap.size + 2) (by simp) ?_))
      intro g9 cap9 w9 own9 grow9 hg9 hlt9
      have B9 := Lib.hid ((bA (bA H2.out (.cells #[.int .i64 z, .int .i64 y, .slice sld q capd] 67)) (.cells #[.int .i64 z] 2)).grown grow9 (by simp; omega) (fun j hj => (hown.out.lt j hj).1))
      rw [EV.out] at own9
      have N9 := Lib.hid own9
      clear own9 grow9 hg9 hlt9 hown
      go_wp2
      go_roundw
      case rel => exact ⟨k + 1, by go_num, by omega, N9, B9⟩
      case measure => simp [intOf]; omega
    · have h1' : ¬ (k : Int) < (n : Int) := by omega
      have e : k = n := by omega
      have F := Lib.hid (show (idsL rs).take k = idsL rs from List.take_of_length_le (by rw [idsL_len, HN.out]; omega))
      have H9 := own_mono H1.out B0.out.size
      rw [F.out, e] at H9
      have P := Lib.hid (And.intro H9 (B0.out.trans (H2.out.mono B0.out.size)))
      clear H9 H1
      go_wp2
      go_ret
      exact ⟨_, rfl, P.out.1, P.out.2⟩

set_option maxHeartbeats 400000 in
theorem ids_nil (sl : Option Addr) (cap : Nat) (sl2 : Option Addr) (m cap2 : Nat) (w : World) :
    Calls Try.prog 35 #[TV sl 0 cap sl2 m cap2] w fun e w' => e = .returned (.slice none 0 0) ∧ Below w.heap.size w w' := by
  go_enter Try.func35, Try.ntmps35
  go_wp2
  refine wp_loop_rounds 1 ?_
  rw [rounds_succ]
  go_wp2
  go_ret
  exact ⟨rfl, bA0 _ _⟩
theorem ids_any (sl : Option Addr) (cap : Nat) (sl2 : Option Addr) (m cap2 : Nat) (rs : List LSt) (w : World) (hn : rs.length ≤ 1048576) (hz : Sts w sl rs) :
    Calls Try.prog 35 #[TV sl rs.length cap sl2 m cap2] w fun e w' => ∃ v, e = .returned v ∧ w'.ownsRow w.heap.size 2 1 v rs.length (valsZ (idsL rs)) ∧ Below w.heap.size w w' := by
  rcases hz.row with rfl | ⟨c, o, rfl, h⟩
  · refine (ids_nil sl cap sl2 m cap2 w).mono ?_
    rintro e w' ⟨rfl, hb⟩
    exact ⟨_, rfl, ⟨rfl, .inl ⟨rfl, rfl⟩⟩, hb⟩
  · exact ids_some c o cap sl2 m cap2 rs w hn h hz.dom

end Go.Proofs.Ytgfclllfkpblnaa
