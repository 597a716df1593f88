/-
  THE NUMBERS IN A BODY, AS THE PROGRAM READS THEM.
-/
import Derived.Test.YtnkdkbchendpmaaDoorRb
import Derived.Deep.AppendLies
namespace Go.Proofs.YtnkdkbchendpmaaDoor
open Go.RowKit
set_option linter.unusedVariables false

def valsI (vs : List Nat) : List Value := vs.map fun (v : Nat) => Value.int .i64 (v : Int)
theorem Nums9.step {l : List UInt8} {v : Nat} {q : List UInt8} (h : rdN 9 l = some (v, q)) (us : List Nat) : Nums9 l us ↔ ∃ u, us = v :: u ∧ Nums9 q u := by
  obtain ⟨e, hl⟩ := rdN_some _ _ _ _ h
  constructor
  · intro k
    rw [e] at k
    generalize hm : numB v ++ q = m at k
    cases k with
    | nil => exact absurd (List.append_eq_nil_iff.1 hm).1 (numB_ne _)
    | cons h' r' =>
      obtain ⟨rfl, rfl⟩ := numB_inj hm
      exact ⟨_, rfl, r'⟩
  · rintro ⟨u, rfl, k⟩
    rw [e]; exact .cons hl k
theorem Nums9.stop {l : List UInt8} (h : rdN 9 l = none) (hl : l ≠ []) (us : List Nat) : ¬ Nums9 l us := by
  intro k
  cases k with
  | nil => exact hl rfl
  | cons h' r' => rw [rdN_numB 9 _ _ h'] at h; cases h
theorem Nums9.end (us : List Nat) : Nums9 [] us ↔ us = [] := by
  constructor
  · intro k
    generalize hm : ([] : List UInt8) = m at k
    cases k with
    | nil => rfl
    | cons h' r' => exact absurd (List.append_eq_nil_iff.1 hm.symm).1 (numB_ne _)
  · rintro rfl; exact .nil
theorem info2' : (Tryd.prog.info? 2).map (fun i => (i.zero, i.size, i.bytes)) = some (some (.int .i64 0), 1, 8) := by kernel_rfl

theorem own_below {B : Nat} {e : TypeId} {m : Nat} {v : Value} {n : Nat} {xs : List Value} {w w' : World} (h : w.ownsRow B e m v n xs) (hb : Below w.heap.size w w') : w'.ownsRow B e m v n xs := by
  refine ⟨h.1, ?_⟩
  rcases h.2 with h | ⟨g, cap, cur, hv, hg, hh, r⟩
  · exact .inl h
  · exact .inr ⟨g, cap, cur, hv, hg, (hb.block g (Array.getElem?_eq_some_iff.1 hh).1).trans hh, r⟩

/-- What numbersIn answers. -/
def NumsPost (B : Nat) (l : List UInt8) (w : World) (e : Ending) (w' : World) : Prop :=
  (∃ vs v, Nums9 l vs ∧ e = .returned (.tuple #[v, .bool true]) ∧ w'.ownsRow B 2 1 v vs.length (valsI vs) ∧ Below B w w') ∨
  ((∀ vs, ¬ Nums9 l vs) ∧ e = .returned (.tuple #[.slice none 0 0, .bool false]) ∧ Below B w w')

set_option maxRecDepth 100000 in
set_option maxHeartbeats 1000000 in
theorem nums_any (s : ByteArray) (hs : s.size ≤ 20000) (w : World) :
    Calls Tryd.prog 64 #[.string s] w fun e w' => NumsPost w.heap.size s.data.toList w e w' := by
  obtain ⟨i0, hi, hz0, hz1, hz2⟩ := info_parts info2'
  go_enter Tryd.func64, Tryd.ntmps64
  go_wp2
  go_loopw [0, 4] (fun t l wr => ∃ (rest : ByteArray) (p : List Nat), t = .string rest ∧ rest.size + p.length ≤ s.size ∧ Hid (∀ vs, Nums9 s.data.toList vs ↔ ∃ us, vs = p ++ us ∧ Nums9 rest.data.toList us) ∧ Hid (Below w.heap.size w wr) ∧ wr.ownsRow w.heap.size 2 1 l p.length (valsI p)) (fun t _ _ => match t with | .string r => r.size | _ => 0)
  case atStart => exact ⟨s, [], rfl, by simp, (fun vs => by simp), Below.refl _ _, World.ownsRow_nil _ _ _ _⟩
  case round =>
    obtain ⟨rest, p, rfl, hsz, H1, H2, hown⟩ := hrel
    have hlen : rest.data.toList.length = rest.size := by simp
    by_cases h0 : rest.size = 0
    · have hE : rest.toList.isEmpty = true := by
        rw [Go.ByteArray.toList_eq, List.eq_nil_of_length_eq_zero (hlen.trans h0)]; rfl
      have F : Hid (Nums9 s.data.toList p) := (H1.out p).2 ⟨[], by simp, by rw [List.eq_nil_of_length_eq_zero (hlen.trans h0)]; exact .nil⟩
      have HO := Lib.hid hown
      clear H1 hown
      go_wp2
      exact bodyPost_ret (v := .tuple #[u4, .bool true]) (by simp [results, Tryd.results64, go_sem]) rfl (.inl ⟨p, u4, F.out, rfl, HO.out, H2.out⟩)
    · have hE : rest.toList.isEmpty = false := by
        rw [Go.ByteArray.toList_eq]
        cases e : rest.data.toList with
        | nil => rw [e] at hlen; simp at hlen; omega
        | cons a r => rfl
      have A := Lib.hid (fun w => ahead_any rest (by omega) w)
      cases hR : rdN 9 rest.data.toList with
      | none =>
        rw [(ah_none hR).1, (ah_none hR).2] at A
        have F : Hid (∀ vs, ¬ Nums9 s.data.toList vs) := fun vs h => by
          obtain ⟨us, _, k⟩ := (H1.out vs).1 h
          exact Nums9.stop hR (fun e => by rw [e] at hlen; simp at hlen; omega) us k
        clear H1 hR hown
        go_wp2_with fail
        refine (A.out _).mono ?_
        rintro e w2 ⟨rfl, b2⟩
        have B2 := Lib.hid (bT H2.out b2)
        clear b2
        go_wp2
        exact bodyPost_ret (v := .tuple #[.slice none 0 0, .bool false]) (by simp [results, Tryd.results64, go_sem]) rfl (.inr ⟨F.out, rfl, B2.out⟩)
      | some pr =>
        obtain ⟨v, q⟩ := pr
        rw [(ah_some hR).1, (ah_some hR).2] at A
        obtain ⟨e1, e2⟩ := rdN_some _ _ _ _ hR
        have hvl := rdN_lt hR
        have hn1 : 1 ≤ (numB v).length := by
          cases e : numB v with
          | nil => exact absurd e (numB_ne v)
          | cons a r => simp
        have hw : (numB v).length ≤ rest.size := by rw [← hlen, e1]; simp
        have F : Hid (∀ vs, Nums9 s.data.toList vs ↔ ∃ us, vs = (p ++ [v]) ++ us ∧ Nums9 (rest.extract (numB v).length rest.size).data.toList us) := by
          intro vs
          have eq : (rest.extract (numB v).length rest.size).data.toList = q := by
            rw [Lib.extract_data, e1, List.drop_left]
            exact List.take_of_length_le (by rw [← hlen, e1]; simp)
          rw [eq, H1.out vs]
          constructor
          · rintro ⟨us, rfl, k⟩
            obtain ⟨u, rfl, k'⟩ := (Nums9.step hR us).1 k
            exact ⟨u, by simp, k'⟩
          · rintro ⟨us, rfl, k⟩
            exact ⟨v :: us, by simp, (Nums9.step hR _).2 ⟨us, rfl, k⟩⟩
        have EV : Hid (valsI p ++ [.int .i64 (v : Int)] = valsI (p ++ [v])) := by show _ = _; simp [valsI]
        have EL : Hid ((p ++ [v]).length = p.length + 1) := by show _ = _; simp
        have ES : Hid ((rest.extract (numB v).length rest.size).size = rest.size - (numB v).length) := by show _ = _; simp
        have HO := Lib.hid hown
        clear H1 hR e1 hown
        generalize (numB v).length = m at *
        generalize p.length = k at *
        have hz : ((m : Int) == 0) = false := by simp; omega
        have hm' : (m : Int) ≤ (rest.size : Int) := by omega
        go_wp2_with fail
        refine (A.out _).mono ?_
        rintro e w2 ⟨rfl, b2⟩
        have B2 := Lib.hid (bT H2.out b2)
        have hown2 := own_below HO.out b2
        clear b2 HO
        go_wp2_with (first | (at_builtin; refine wpList_append_lies _ rfl (.tmp 16) (.tmp 18) 26 rfl w.heap.size 2 i0 (.int .i64 0) 1 8 Tryd.underlying26 hi hz0 hz1 hz2 rfl (by decide) _ _ _ rfl (hown2.alloc _) ⟨w2.heap.size, 0, none⟩ 1 1 [.int .i64 (v : Int)] rfl rfl (cell_one_new _ _ _) (by intro u hu; simp at hu; subst hu; rfl) (by decide) (by unfold maxLen; omega) (by omega) (by have := B2.out.size; simp; omega) (w2.heap.size + 1) (by simp) ?_))
        intro g cap w3 hown3 hgrow hg3 hlt3
        have B3 : Hid (Below w.heap.size w w3) := B2.out.alloc B2.out.size _ |>.grown hgrow (by have := B2.out.size; simp; omega) (fun j hj => (hown2.lt j hj).1)
        rw [EV.out] at hown3
        have O3 : Hid (w3.ownsRow w.heap.size 2 1 (.slice (some ⟨g, 0, none⟩) (k + 1) cap) (p ++ [v]).length (valsI (p ++ [v]))) := by
          have e := EL.out; show World.ownsRow _ _ _ _ _ _ _; rw [e]; exact hown3
        clear hown3 hgrow hg3 hlt3 hown2
        go_wp2
        refine ⟨⟨_, p ++ [v], rfl, by rw [ES.out, EL.out]; omega, F, B3, O3.out⟩, ?_⟩
        show (rest.extract m rest.size).size < rest.size
        rw [ES.out]; omega

theorem signedOf_any (n : Nat) (hn : n < 9223372036854775808) (w : World) :
    Calls Tryd.prog 65 #[.int .i64 n] w fun e w' => e = .returned (.int .i64 (signO n)) ∧ w' = w := by
  by_cases h : n % 2 = 0
  · have h' : ((n : Int) % 2 == 0) = true := by simp; omega
    have e : signO n = (n : Int) / 2 := by unfold signO; rw [if_pos h]; omega
    rw [e]; clear e
    go_enter Tryd.func65, Tryd.ntmps65
    go_wp2
    go_ret
    exact ⟨rfl, rfl⟩
  · have h' : ((n : Int) % 2 == 0) = false := by simp; omega
    have e : signO n = -((n : Int) / 2) - 1 := by unfold signO; rw [if_neg h]; omega
    rw [e]; clear e
    go_enter Tryd.func65, Tryd.ntmps65
    go_wp2
    go_ret
    exact ⟨rfl, rfl⟩
end Go.Proofs.YtnkdkbchendpmaaDoor
