import Derived.Test.YtnihhbfgbilimaaGreatDoorZPz
namespace Go.Proofs.YtnihhbfgbilimaaGreatDoor
open Go.RowKit
set_option linter.unusedVariables false
set_option linter.unusedSimpArgs false
theorem flatV_two (a b : VRw) : flatV [a, b] = a.2 ++ b.2 := by simp [flatV]
theorem hdC_one {w : World} {cs : List LCl} (h : ∀ r ∈ cs, ClIn w r) : ∀ u ∈ hdC cs, u.oneCell' = true := by
 intro u hu
 obtain ⟨r, hr, rfl⟩ := List.mem_map.1 hu
 obtain ⟨sl, cap, e, _⟩ := h r hr
 rw [e]
 rfl
theorem two_row (w : World) (a b : Value) (t : TypeId) : (w.alloc (.cells #[a, b] t)).cell? ⟨w.heap.size, 0, none⟩ = some a ∧ (w.alloc (.cells #[a, b] t)).cell? ⟨w.heap.size, 1, none⟩ = some b := by
 have := new_at w (.cells #[a, b] t)
 generalize w.alloc (.cells #[a, b] t) = W at *
 constructor <;> simp [World.cell?, this]
theorem zero132 : Tryz.zeroCells241 = (nilV :: List.replicate 193 nilV).toArray := by kernel_rfl
theorem occI_nil (i : Nat) : occI [] i = [] := occ_nil _
theorem rep_getD (n i : Nat) (h : i < n) : (List.replicate n nilV).getD i nilV = nilV := by simp [List.getD_eq_getElem?_getD, List.getElem?_replicate, h]
theorem Bk.new (w : World) {B : Nat} (hB : B ≤ w.heap.size) : Bk B w.heap.size nilV (List.replicate 193 nilV) [] (occI []) (w.alloc (.cells Tryz.zeroCells241 241)) := by
 have hg : ∀ i, i < 193 → (List.replicate 193 nilV).getD i nilV = nilV := fun i hi => rep_getD 193 i hi
 refine ⟨hB, ?_, List.length_replicate, ⟨rfl, .inl ⟨rfl, rfl⟩⟩, fun i hi => ?_, fun i j hi hj hij g e => ?_⟩
 ·rw [← zero132]; exact new_at _ _
 ·rw [hg i hi, occI_nil]
  exact ⟨rfl, .inl ⟨rfl, rfl⟩⟩
 ·rw [hg i hi] at e
  cases e
def LitOk (l : List Int) : Prop := (∀ z ∈ l, -96 ≤ z ∧ z ≤ 96) ∧ l.Nodup ∧ l.length ≤ 1000
set_option maxRecDepth 100000 in
set_option maxHeartbeats 4000000 in
theorem bookOf_any (vars : Int) (sl : Option Addr) (cap : Nat) (cs : List LCl) (sl2 : Option Addr) (cap2 : Nat) (ds : List LCl) (w : World) (hn : cs.length ≤ 40000) (hm : ds.length ≤ 40000) (hz : Cls w sl cs) (ht : Cls w sl2 ds) (hw : ∀ r ∈ cs ++ ds, LitOk r.2) :
  Calls Tryz.prog 168 #[CV vars sl cs.length cap, .slice sl2 ds.length cap2] w fun e w' => e = .returned (.pointer (some ⟨w.heap.size + 1, 0, none⟩)) ∧ (∃ (vc : Value) (hs : List Value), Bk w.heap.size (w.heap.size + 1) vc hs (cs ++ ds) (occI (bareC (cs ++ ds))) w') ∧ Below w.heap.size w w' := by
 have CA := Lib.hid ((CnfAt.new w vars sl cs.length cap).below (bA0 _ (.cells Tryz.zeroCells241 241)))
 have B0 := Lib.hid (bA (bA0 w (.cells #[.int .i64 vars, .slice sl cs.length cap] 110)) (.cells Tryz.zeroCells241 241))
 have hs0 : (w.alloc (.cells #[.int .i64 vars, .slice sl cs.length cap] 110)).heap.size = w.heap.size + 1 := by simp
 have K0 := Bk.new (w.alloc (.cells #[.int .i64 vars, .slice sl cs.length cap] 110)) (B := w.heap.size) (by omega)
 rw [hs0] at K0
 have KK := Lib.hid K0
 have CC : Hid (∀ W, Below w.heap.size w W → Calls Tryz.prog 191 #[.slice (some ⟨W.heap.size, 0, none⟩) 2 2] (W.alloc (.cells #[.slice sl cs.length cap, .slice sl2 ds.length cap2] 31)) fun e w' => ∃ v, e = .returned v ∧ w'.ownsRow (W.heap.size + 1) 34 1 v (cs ++ ds).length (hdC (cs ++ ds)) ∧ Below (W.heap.size + 1) (W.alloc (.cells #[.slice sl cs.length cap, .slice sl2 ds.length cap2] 31)) w') := fun W hW => by
  have hb : Below w.heap.size w (W.alloc (.cells #[.slice sl cs.length cap, .slice sl2 ds.length cap2] 31)) := bA hW _
  obtain ⟨c0, c1⟩ := two_row W (.slice sl cs.length cap) (.slice sl2 ds.length cap2) 31
  have hsz : (W.alloc (.cells #[.slice sl cs.length cap, .slice sl2 ds.length cap2] 31)).heap.size = W.heap.size + 1 := by simp
  have hr : VRws (W.alloc (.cells #[.slice sl cs.length cap, .slice sl2 ds.length cap2] 31)) (some ⟨W.heap.size, 0, none⟩) [(.slice sl cs.length cap, hdC cs), (.slice sl2 ds.length cap2, hdC ds)] := by
   refine ⟨.inr ⟨W.heap.size, 0, rfl, by omega, fun i hi => ?_⟩, fun r hr => ?_⟩
   ·match i, hi with
    | 0, _ => exact c0
    | 1, _ => exact c1
   ·rcases List.mem_cons.1 hr with rfl | hr
    ·exact ⟨sl, cap, by rw [hdC_len], (hz.below hb).lie, hdC_one (hz.below hb).each⟩
    ·rw [List.mem_singleton.1 hr]
     exact ⟨sl2, cap2, by rw [hdC_len], (ht.below hb).lie, hdC_one (ht.below hb).each⟩
  have := catV_any (some ⟨W.heap.size, 0, none⟩) 2 [(.slice sl cs.length cap, hdC cs), (.slice sl2 ds.length cap2, hdC ds)] _ (by simp) (by rw [flatV_two, List.length_append, hdC_len, hdC_len]; omega) hr
  rw [hsz, flatV_two] at this
  rw [hdC_add, show (cs ++ ds).length = (hdC cs ++ hdC ds).length by simp [hdC_len]]
  exact this
 have EA : Hid (∀ r ∈ cs ++ ds, ClIn w r) := fun r hr => by
  rcases List.mem_append.1 hr with h | h
  ·exact hz.each r h
  ·exact ht.each r h
 have hlen : (cs ++ ds).length ≤ 80000 := by simp; omega
 have HW := Lib.hid hw
 clear hz ht hw K0
 generalize cs ++ ds = ls at *
 have AD : Hid (∀ (k : Nat) (r : LCl) (vc : Value) (hs : List Value) (wr : World), ls[k]? = some r → Bk w.heap.size (w.heap.size + 1) vc hs (ls.take k) (occI (bareC (ls.take k))) wr → Below w.heap.size w wr → ∃ s kc, r.1 = .slice s r.2.length kc ∧ Calls Tryz.prog 192 #[.pointer (some ⟨w.heap.size + 1, 0, none⟩), .slice s r.2.length kc] wr fun e w' => e = .returned (.tuple #[]) ∧ (∃ vc' hs', Bk w.heap.size (w.heap.size + 1) vc' hs' (ls.take (k + 1)) (occI (bareC (ls.take (k + 1)))) w') ∧ OnlyK w.heap.size wr w') := fun k r vc hs wr hk hb hB => by
  have hm := List.mem_of_getElem? hk
  obtain ⟨hkl, hke⟩ := List.getElem?_eq_some_iff.1 hk
  obtain ⟨s, kc, e, hi, _⟩ := EA.out r hm
  obtain ⟨q1, q2, q3⟩ := HW.out r hm
  refine ⟨s, kc, e, ?_⟩
  have := add_any s kc r.2 wr hb hB.size (by rw [List.length_take]; omega) q3 q1 q2 (fun W hW => by
   have := hB.trans (hW.below hB.size)
   exact hi.below this)
  have et : ls.take (k + 1) = ls.take k ++ [(.slice s r.2.length kc, r.2)] := by
   rw [List.take_succ_eq_append_getElem hkl, hke, ← e]
  have eb : bareC (ls.take (k + 1)) = bareC (ls.take k) ++ [r.2] := by rw [et, bareC_add]; rfl
  rw [eb, et]
  exact this
 have TE := Lib.hid (show ls.take ls.length = ls from List.take_length)
 have T0 := Lib.hid (show ls.take 0 = [] from List.take_zero)
 have HH := Lib.hid (show ∀ k, k < ls.length → ∃ r : LCl, ls[k]? = some r ∧ (hdC ls)[k]? = some r.1 from fun k hk => ⟨ls[k], List.getElem?_eq_getElem hk, by simp only [hdC, List.getElem?_map, List.getElem?_eq_getElem hk, Option.map_some]⟩)
 clear EA HW
 generalize cs.length = n at *
 generalize ds.length = m at *
 generalize hN : ls.length = q at *
 clear hN
 obtain ⟨t0, t1⟩ := CA.out.cells
 have tl := CA.out.lt
 go_enter Tryz.func168, Tryz.ntmps168
 go_wp2_with fail
 have hs2 : ((w.alloc (.cells #[.int .i64 vars, .slice sl n cap] 110)).alloc (.cells Tryz.zeroCells241 241)).heap.size = w.heap.size + 1 + 1 := by simp
 have C2 := Lib.hid (CC.out _ B0.out)
 have KA := Lib.hid (KK.out.below (bA0 _ (.cells #[.slice sl n cap, .slice sl2 m cap2] 31)))
 have BA := Lib.hid (bA B0.out (.cells #[.slice sl n cap, .slice sl2 m cap2] 31))
 have hs3 : (((w.alloc (.cells #[.int .i64 vars, .slice sl n cap] 110)).alloc (.cells Tryz.zeroCells241 241)).alloc (.cells #[.slice sl n cap, .slice sl2 m cap2] 31)).heap.size = w.heap.size + 1 + 1 + 1 := by simp
 rw [hs2] at C2
 clear CC B0 KK CA t0 t1 tl hs2 hs0
 generalize ((w.alloc (.cells #[.int .i64 vars, .slice sl n cap] 110)).alloc (.cells Tryz.zeroCells241 241)).alloc (.cells #[.slice sl n cap, .slice sl2 m cap2] 31) = wA at *
 refine C2.out.mono ?_
 rintro e w1 ⟨v1, rfl, O1, b1⟩
 obtain ⟨s1, k1, rfl⟩ := own_v O1
 have K1 := Lib.hid (KA.out.below (by rw [hs3]; exact b1))
 have BB := Lib.hid (BA.out.trans (b1.mono (by omega : w.heap.size ≤ w.heap.size + 1 + 1 + 1)))
 have RD : Hid (∀ W, OnlyK w.heap.size w1 W → ∀ k, k < q → ∃ g, s1 = some ⟨g, 0, none⟩ ∧ g < W.heap.size ∧ W.cell? ⟨g, k, none⟩ = (hdC ls)[k]?) := fun W hW k hk => by
  rcases O1.2 with ⟨_, h0⟩ | ⟨g, cp, cur, hv, hb, hg, h5, h6, h7, h8⟩
  ·omega
  ·cases hv
   have hg2 := hW.block g _ hg (.inr fun us t e => by cases e; decide)
   refine ⟨g, rfl, (Array.getElem?_eq_some_iff.1 hg2).1, ?_⟩
   rw [← h8, List.getElem?_take_of_lt (by omega)]
   simp [World.cell?, hg2]
 clear O1 b1 C2 KA BA hs3
 go_wp2
 go_loopw [16] (fun a wr => ∃ (k : Nat) (y : Int) (vc : Value) (hs : List Value), a = .int .i64 y ∧ Hid (y = (k : Int) ∧ k ≤ q) ∧ Hid (Bk w.heap.size (w.heap.size + 1) vc hs (ls.take k) (occI (bareC (ls.take k))) wr) ∧ Hid (OnlyK w.heap.size w1 wr)) (fun a _ => ((q : Int) - intOf a).toNat)
 case atStart => exact ⟨0, 0, _, _, rfl, ⟨rfl, Nat.zero_le _⟩, by rw [T0.out]; exact K1, OnlyK.refl _ _⟩
 case round =>
  obtain ⟨k, y, vc, hs, rfl, HK, G1, T1⟩ := hrel
  clear K1
  by_cases hk : k < q
  ·have hlt : y < (q : Int) := by have := HK.out.1; omega
   have hy0 : 0 ≤ y := by have := HK.out.1; omega
   obtain ⟨g, hsl, hgl, hcell⟩ := RD.out wr T1.out k hk
   subst hsl
   obtain ⟨r, hr, hh⟩ := HH.out k hk
   obtain ⟨s, kc, er, hcall⟩ := AD.out k r vc hs wr hr G1.out (BB.out.trans (T1.out.below BB.out.size))
   have CALL := Lib.hid hcall
   rw [hh, er] at hcell
   have hyk : y.toNat = k := by have := HK.out.1; omega
   have hc2 : wr.cell? ⟨g, y.toNat, none⟩ = some (.slice s r.2.length kc) := by rw [hyk]; exact hcell
   have hwy : wrap64 (y + 1) = y + 1 := wrap_in _ ⟨by omega, by omega⟩
   have MES : Hid (((q : Int) - (y + 1)).toNat < ((q : Int) - y).toNat) := by show _ < _; omega
   have NX : Hid (∀ W' vc' hs', Bk w.heap.size (w.heap.size + 1) vc' hs' (ls.take (k + 1)) (occI (bareC (ls.take (k + 1)))) W' → OnlyK w.heap.size wr W' → (∃ (k2 : Nat) (y2 : Int) (vc2 : Value) (hs2 : List Value), Value.int .i64 (y + 1) = .int .i64 y2 ∧ Hid (y2 = (k2 : Int) ∧ k2 ≤ q) ∧ Hid (Bk w.heap.size (w.heap.size + 1) vc2 hs2 (ls.take k2) (occI (bareC (ls.take k2))) W') ∧ Hid (OnlyK w.heap.size w1 W'))) := fun W' vc' hs' h1 h2 => ⟨k + 1, y + 1, vc', hs', rfl, ⟨by have := HK.out.1; omega, by omega⟩, h1, T1.out.trans h2⟩
   clear hcall hcell hyk hr hh er G1 T1 HK AD RD BB HH
   generalize r.2.length = rn at *
   go_wp2_with fail
   refine CALL.out.mono ?_
   rintro e w5 ⟨rfl, ⟨vc', hs', h5⟩, o5⟩
   have PF := Lib.hid (NX.out w5 vc' hs' h5 o5)
   clear h5 o5 NX CALL
   go_wp2
   try rw [hwy]
   exact ⟨PF.out, MES.out⟩
  ·have hlt : ¬ y < (q : Int) := by have := HK.out.1; omega
   have hkq : k = q := by have := HK.out.2; omega
   have PF : Hid (Bk w.heap.size (w.heap.size + 1) vc hs ls (occI (bareC ls)) wr) := by
    have := G1.out
    rw [hkq, TE.out] at this
    exact this
   have PB := Lib.hid (BB.out.trans (T1.out.below BB.out.size))
   clear G1 T1 AD RD BB HH
   go_wp2
   go_ret
   exact ⟨rfl, ⟨_, _, PF.out⟩, PB.out⟩
end Go.Proofs.YtnihhbfgbilimaaGreatDoor
