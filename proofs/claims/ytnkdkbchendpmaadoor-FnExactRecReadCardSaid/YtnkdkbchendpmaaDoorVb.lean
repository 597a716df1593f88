/-
  THE LAW FnExactRecRead: its walk.
-/
import Derived.Test.YtnkdkbchendpmaaDoorVa
import Derived.Test.YtnkdkbchendpmaaDoorRk
namespace Go.Proofs.YtnkdkbchendpmaaDoor
open Go.RowKit
set_option linter.unusedVariables false

/-- What is told of a text: kind, numbers, how many bytes, a code. -/
def Told (t : List UInt8) (k : Int) (zs : List Int) (u c : Int) : Prop :=
  (∃ n q, Good t n q ∧ IsBody (q.take n) k zs ∧ u = 1 + (numB n).length + n + 4 ∧ c = 0) ∨ ((∀ n q k zs, Good t n q → ¬ IsBody (q.take n) k zs) ∧ k = 0 ∧ zs = [] ∧ u = 0 ∧ c = rdF t)
theorem Told.uniq {t : List UInt8} {k k' : Int} {zs zs' : List Int} {u u' c c' : Int} (h : Told t k zs u c) (h' : Told t k' zs' u' c') : k = k' ∧ zs = zs' ∧ u = u' ∧ c = c' := by
  rcases h with ⟨n, q, g, b, rfl, rfl⟩ | ⟨hno, rfl, rfl, rfl, rfl⟩
  · rcases h' with ⟨n', q', g', b', rfl, rfl⟩ | ⟨hno, _⟩
    · obtain ⟨rfl, rfl⟩ := g.inj g'
      obtain ⟨rfl, rfl⟩ := b.uniq b'
      exact ⟨rfl, rfl, rfl, rfl⟩
    · exact absurd b (hno _ _ _ _ g)
  · rcases h' with ⟨n', q', g', b', _⟩ | ⟨_, rfl, rfl, rfl, rfl⟩
    · exact absurd b' (hno _ _ _ _ g')
    · exact ⟨rfl, rfl, rfl, rfl⟩
theorem Told.len {t : List UInt8} {k : Int} {zs : List Int} {u c : Int} (h : Told t k zs u c) : zs.length ≤ 60 := by
  rcases h with ⟨n, q, g, b, rfl, rfl⟩ | ⟨hno, rfl, rfl, rfl, rfl⟩
  · have := b.1
    unfold recR at this
    simp at this
    exact this.2.1
  · simp
/-- What comes back. -/
def OutP (t : List UInt8) (w : World) (e : Ending) (w' : World) : Prop :=
  ∃ k zs v u c, Told t k zs u c ∧ e = .returned (RO k v u c) ∧ w'.ownsRow w.heap.size 2 1 v zs.length (valsZ zs) ∧ Below w.heap.size w w'
theorem RdPost.out {t : List UInt8} {w : World} {e : Ending} {w' : World} (h : RdPost t w e w') : OutP t w e w' := by
  rcases h with ⟨n1, q1, k1, zs, v1, g1, b1, rfl, own1, bl1⟩ | ⟨hno, rfl, bl1⟩
  · exact ⟨k1, zs, v1, _, 0, .inl ⟨n1, q1, g1, b1, rfl, rfl⟩, rfl, own1, bl1⟩
  · exact ⟨0, [], _, 0, _, .inr ⟨hno, rfl, rfl, rfl, rfl⟩, rfl, ⟨rfl, .inl ⟨rfl, rfl⟩⟩, bl1⟩

set_option maxRecDepth 100000 in
set_option maxHeartbeats 1000000 in
/-- spec.RecRead, at every text. -/
theorem srd_any (s : ByteArray) (w : World) : Calls Tryd.prog 24 #[.string s] w fun e w' => OutP s.data.toList w e w' := by
  have hlen : s.data.toList.length = s.size := by simp
  by_cases h : s.size ≤ 20000
  · have h' : ¬ (20000 : Int) < (s.size : Int) := by omega
    have C := Lib.hid (fun w => sr_any s h w)
    have Q1 := Lib.hid (QAt.new w)
    clear hlen h
    generalize s.data.toList = t at *
    go_enter Tryd.func24, Tryd.ntmps24
    go_wp2_with fail
    refine (C.out _).mono ?_
    intro e w1 hp
    obtain ⟨k, zs, v, u, c, told, rfl, own, bl⟩ := hp.out
    obtain ⟨sl, cap, rfl, -⟩ := own_ints own
    have q := Q1.out.below bl
    obtain ⟨q0, q1, q2, q3, qf, ql⟩ := q.cells
    obtain ⟨z0, z1, z2, z3⟩ := (q.set4 (.int .i64 k) (.slice sl zs.length cap) (.int .i64 u) (.int .i64 c)).cells
    have hb := (Nat.le_of_lt (Nat.lt_succ_self w.heap.size))
    rw [show (w.alloc (.cells #[.int .i64 0, .slice none 0 0, .int .i64 0, .int .i64 0] 36)).heap.size = w.heap.size + 1 by simp] at own
    have P : Hid (OutP t w (.returned (RO k (.slice sl zs.length cap) u c)) ((((w1.setCell ⟨w.heap.size, 0, none⟩ (.int .i64 k)).setCell ⟨w.heap.size, 1, none⟩ (.slice sl zs.length cap)).setCell ⟨w.heap.size, 2, none⟩ (.int .i64 u)).setCell ⟨w.heap.size, 3, none⟩ (.int .i64 c))) :=
      ⟨k, zs, _, u, c, told, rfl, own_mono (own_setg (own_setg (own_setg (own_setg own (Nat.lt_succ_self _) _ _) (Nat.lt_succ_self _) _ _) (Nat.lt_succ_self _) _ _) (Nat.lt_succ_self _) _ _) hb, b4 (bT (bA0 _ _) bl) _ _ _ _⟩
    clear C hp own bl told Q1 q
    generalize zs.length = n at *
    go_wp2
    exact bodyPost_ret (v := RO k (.slice sl n cap) u c) (by simp [results, Tryd.results24, go_sem, z0, z1, z2, z3]) rfl P.out
  · have h' : (20000 : Int) < (s.size : Int) := by omega
    obtain ⟨f1, f2⟩ := rdF_long (t := s.data.toList) (by omega)
    have P : Hid (∀ W, Below w.heap.size w W → OutP s.data.toList w (.returned (RO 0 (.slice none 0 0) 0 2)) W) := fun W hb => ⟨0, [], _, 0, 2, .inr ⟨f2, rfl, rfl, rfl, f1.symm⟩, rfl, ⟨rfl, .inl ⟨rfl, rfl⟩⟩, hb⟩
    clear f1 f2 hlen h
    go_enter Tryd.func24, Tryd.ntmps24
    go_wp2
    exact bodyPost_ret (v := RO 0 (.slice none 0 0) 0 2) (by simp [results, Tryd.results24, go_sem]) rfl (P.out _ (bA0 _ _))

set_option maxRecDepth 100000 in
set_option maxHeartbeats 1000000 in
theorem eqO_any (k u c : Int) (sl sl2 : Option Addr) (cap cap2 : Nat) (zs : List Int) (w : World) (hn : zs.length ≤ maxLen) (hz : Ints w sl zs) (hz2 : Ints w sl2 zs) :
    Calls Tryd.prog 25 #[RO k (.slice sl zs.length cap) u c, RO k (.slice sl2 zs.length cap2) u c] w fun e w' => e = .returned (.bool true) ∧ Below w.heap.size w w' := by
  have E : Hid (∀ w1, Below w.heap.size w w1 → Calls Tryd.prog 23 #[RV k sl zs.length cap, RV k sl2 zs.length cap2] w1 fun e w' => e = .returned (.bool true) ∧ Below w1.heap.size w1 w') :=
    fun w1 hb => eqR_any k sl sl2 cap cap2 zs w1 hn (hz.below hb) (hz2.below hb)
  clear hz hz2
  generalize zs.length = n at *
  go_enter Tryd.func25, Tryd.ntmps25
  go_wp2_with fail
  refine (E.out _ (bA (bA0 _ _) _)).mono ?_
  rintro e w1 ⟨rfl, hb⟩
  obtain ⟨hc, hf⟩ := bcell hb
  go_wp2
  go_ret
  exact ⟨rfl, bT (bA (bA0 _ _) _) hb⟩

end Go.Proofs.YtnkdkbchendpmaaDoor
