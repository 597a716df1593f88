/-
  A TABLE WITH A LINE'S NUMBERS BEHIND IT, whatever they are: impl.withNumbers.
-/
import Derived.Test.YtdndhhkpbcpalaaDoorKd
namespace Go.Proofs.YtdndhhkpbcpalaaDoor
open Go.RowKit
set_option linter.unusedVariables false
set_option linter.unusedSimpArgs false

/-- A station without its memory. -/
def bare (rs : List LSt) : List BSt := rs.map fun r => (r.1, r.2.1, r.2.2.2)
theorem bare_add (rs : List LSt) (r : LSt) : bare (rs ++ [r]) = bare rs ++ [(r.1, r.2.1, r.2.2.2)] := by simp [bare]
theorem tab_bare (rs : List LSt) (ps : List LPr) : TabB (bare rs) ps ↔ TabR rs ps := by
  have hi : idsL ((bare rs).map toLS) = idsL rs := by simp [idsL, bare, toLS]
  have hl : ((bare rs).map toLS).length = rs.length := by simp [bare]
  unfold TabB TabR
  rw [hi, hl]
  have hs : (∀ r ∈ (bare rs).map toLS, StOK r.2.1 r.2.2.2) ↔ ∀ r ∈ rs, StOK r.2.1 r.2.2.2 := by
    constructor
    · intro h r hr
      exact h (toLS (r.1, r.2.1, r.2.2.2)) (List.mem_map.2 ⟨_, List.mem_map.2 ⟨r, hr, rfl⟩, rfl⟩)
    · intro h r hr
      obtain ⟨b, hb, rfl⟩ := List.mem_map.1 hr
      obtain ⟨r', hr', rfl⟩ := List.mem_map.1 hb
      exact h r' hr'
  rw [hs]
/-- What comes of a line of that kind with these numbers. -/
noncomputable def numsP (bs : List BSt) (ps : List LPr) (k : Int) (z : List Int) : Option (List BSt × List LPr) :=
  if 2 ≤ z.length then
    (if k = 3 then (if ps = [] ∧ B (TabB (bs ++ [(z.getD 0 0, z.getD 1 0, z.drop 2)]) ps) = true then some (bs ++ [(z.getD 0 0, z.getD 1 0, z.drop 2)], ps) else none)
     else if z.length = 2 ∧ B (TabB bs (ps ++ [(z.getD 0 0, z.getD 1 0, k)])) = true then some (bs, ps ++ [(z.getD 0 0, z.getD 1 0, k)]) else none)
  else none
theorem lineP_nums (bs : List BSt) (ps : List LPr) (l : List UInt8) :
    lineP bs ps l = if ((splitL 32 l).drop 1).all numI = true ∧ kindOf ((splitL 32 l).headD []) ≠ 0 then numsP bs ps (kindOf ((splitL 32 l).headD [])) (((splitL 32 l).drop 1).map digv) else none := by
  unfold lineP numsP kindOf
  generalize (splitL 32 l).headD [] = w
  generalize (splitL 32 l).drop 1 = ws
  have n1 : samW ≠ staW := by decide
  have n2 : besW ≠ staW := by decide
  have n3 : besW ≠ samW := by decide
  have n4 : samW ≠ besW := by decide
  by_cases ha : ws.all numI = true
  · by_cases h1 : w = staW
    · simp [ha, h1]
    · by_cases h2 : w = samW
      · simp [ha, h2, n1, kindW, n4]
      · by_cases h3 : w = besW
        · simp [ha, h3, n2, n3, kindW]
        · simp [h1, h2, h3]
  · simp [ha]
/-- A value that is a slice. -/
def IsSl (v : Value) : Prop := ∃ sl n c, v = .slice sl n c
theorem IsSl.own {w : World} {B : Nat} {e : TypeId} {m : Nat} {v : Value} {n : Nat} {xs : List Value} (h : w.ownsRow B e m v n xs) : IsSl v := by
  rcases h.2 with ⟨hv, _⟩ | ⟨g, cap, cur, hv, _⟩
  · exact ⟨_, _, _, hv⟩
  · exact ⟨_, _, _, hv⟩
/-- What a line answers: the table with it, or no. -/
def LinePost (C : Nat) (v1 v2 : Value) (w : World) (res : Option (List BSt × List LPr)) (e : Ending) (w' : World) : Prop :=
  ∃ u1 u2 ok, e = .returned (.tuple #[.agg #[u1, u2], .bool ok]) ∧ IsSl u1 ∧ IsSl u2 ∧ Below C w w' ∧ Keep2 v1 v2 w w' ∧
    ((ok = false ∧ res = none) ∨ (ok = true ∧ ∃ rs' ps', OwT w' C u1 u2 rs' ps' ∧ res = some (bare rs', ps')))
theorem keep_below {v1 v2 : Value} {w w' : World} (h : Below w.heap.size w w') : Keep2 v1 v2 w w' := fun k hk _ _ => h.block k hk
theorem LinePost.no {C : Nat} {v1 v2 : Value} {w : World} {e : Ending} {w' : World} (hC : C ≤ w.heap.size) (h : WnNo w e w') : LinePost C v1 v2 w none e w' :=
  ⟨_, _, false, h.1, ⟨_, _, _, rfl⟩, ⟨_, _, _, rfl⟩, h.2.mono hC, keep_below h.2, .inl ⟨rfl, rfl⟩⟩
theorem LinePost.of {C : Nat} {v1 v2 : Value} {w : World} {ok : Bool} {rs : List LSt} {ps : List LPr} {e : Ending} {w' : World} {res : Option (List BSt × List LPr)} (h : WnPost C v1 v2 w ok rs ps e w') (hy : ok = true → res = some (bare rs, ps)) (hn : ok = false → res = none) : LinePost C v1 v2 w res e w' := by
  obtain ⟨u1, u2, he, ho, hb, hk⟩ := h
  refine ⟨u1, u2, ok, he, .own ho.r1, .own ho.r2, hb, hk, ?_⟩
  cases ok with
  | true => exact .inr ⟨rfl, rs, ps, ho, hy rfl⟩
  | false => exact .inl ⟨rfl, hn rfl⟩
theorem dom_lt {w : World} {B : Nat} {r : LSt} (h : TailOf w B r) : ∃ g, domB r = some g ∧ B ≤ g ∧ g < w.heap.size := by
  obtain ⟨g, o, cap, kap, zs, h1, ho2, h2, h3, h4, h5⟩ := h
  refine ⟨g, by unfold domB; rw [h1]; rfl, ?_⟩
  have := World.ownsRow.lt h5 g rfl
  exact this
theorem B_tab (rs : List LSt) (ps : List LPr) : B (TabB (bare rs) ps) = B (TabR rs ps) := by rw [show TabB (bare rs) ps = TabR rs ps from propext (tab_bare rs ps)]

/-- impl.withNumbers. -/
theorem wn_any (C : Nat) (v1 v2 v : Value) (rs : List LSt) (ps : List LPr) (k : Int) (zs : List Int) (w : World) (h : OwT w C v1 v2 rs ps) (hB : C ≤ w.heap.size) (hr : rs.length ≤ 100000) (hp : ps.length ≤ 100000) (hzl : zs.length ≤ 100000)
    (hv : w.ownsRow C 2 1 v zs.length (valsZ zs)) (hf : ∀ s ∈ rs, domB s ≠ v.ownBlock) (hk : k = 1 ∨ k = 2 ∨ k = 3) (hw : ∀ p ∈ ps, WfP p) (hz : ∀ z ∈ zs, wfI z) (TR : TR38) :
    Calls Tryd.prog 24 #[.agg #[v1, v2], .int .i64 k, v] w fun e w' => LinePost C v1 v2 w (numsP (bare rs) ps k zs) e w' := by
  by_cases h2 : 2 ≤ zs.length
  · obtain ⟨a, b, ds, rfl⟩ : ∃ a b ds, zs = a :: b :: ds := by
      match zs, h2 with
      | a :: b :: r, _ => exact ⟨a, b, r, rfl⟩
    obtain ⟨g, kap, rfl, hk2⟩ : ∃ g kap, v = .slice (some ⟨g, 0, none⟩) (ds.length + 2) kap ∧ ds.length + 2 ≤ kap := by
      rcases hv.2 with ⟨_, h0⟩ | ⟨g, cap, cur, e, _, _, hl, _⟩
      · simp at h0
      · exact ⟨g, cap, by simpa using e, by simpa using hl⟩
    have hd : ds.length ≤ 100000 := by simp at hzl; omega
    have hgd : ((a :: b :: ds).getD 0 0, (a :: b :: ds).getD 1 0, (a :: b :: ds).drop 2) = (a, b, ds) := rfl
    by_cases h3 : k = 3
    · subst h3
      cases ps with
      | cons p0 pr =>
        obtain ⟨sl2, cap2, e2, _⟩ := own_pr h
        subst e2
        have hres : numsP (bare rs) (p0 :: pr) 3 (a :: b :: ds) = none := by simp [numsP]
        rw [hres]
        exact (wn_late v1 sl2 _ cap2 (some ⟨g, 0, none⟩) _ kap w (by omega) (by simp)).mono fun e w' hh => LinePost.no hB hh
      | nil =>
        have hres : ∀ dv, numsP (bare rs) [] 3 (a :: b :: ds) = if B (TabR (rs ++ [(a, b, dv, ds)]) []) = true then some (bare (rs ++ [(a, b, dv, ds)]), []) else none := fun dv => by
          have hb := B_tab (rs ++ [(a, b, dv, ds)]) []
          rw [bare_add] at hb ⊢
          simp [numsP, ← hb]
        by_cases hkap : kap = 2
        · subst hkap
          obtain rfl : ds = [] := List.eq_nil_of_length_eq_zero (by omega)
          have hf' : ∀ s ∈ rs, domB s ≠ some g := fun s hs => hf s hs
          rw [hres (.slice (some ⟨g, 0, none⟩) 0 0)]
          refine (wn_sta0 C v1 v2 rs a b g w h hB hr hv hf' TR).mono fun e w' hh => LinePost.of hh (fun hy => by rw [if_pos hy]) (fun hn => by rw [if_neg (by rw [hn]; simp)])
        · have hf' : ∀ s ∈ rs, domB s ≠ some g := fun s hs => hf s hs
          rw [hres (.slice (some ⟨g, 2, none⟩) ds.length (kap - 2))]
          refine (wn_sta C v1 v2 rs a b ds g kap w h hB hr hd hv hf' hkap TR).mono fun e w' hh => LinePost.of hh (fun hy => by rw [if_pos hy]) (fun hn => by rw [if_neg (by rw [hn]; simp)])
    · have hres : numsP (bare rs) ps k (a :: b :: ds) = if B (ds = [] ∧ TabR rs (ps ++ [(a, b, k)])) = true then some (bare rs, ps ++ [(a, b, k)]) else none := by
        have hb := B_tab rs (ps ++ [(a, b, k)])
        by_cases hds : ds = []
        · have : B (ds = [] ∧ TabR rs (ps ++ [(a, b, k)])) = B (TabR rs (ps ++ [(a, b, k)])) := by congr 1; simp [hds]
          rw [this, ← hb]
          simp [numsP, h3, hds]
        · have : B (ds = [] ∧ TabR rs (ps ++ [(a, b, k)])) = false := B_no (fun hh => hds hh.1)
          rw [this]
          have : ¬ ds.length + 1 + 1 = 2 := fun hh => hds (List.eq_nil_of_length_eq_zero (by omega))
          simp [numsP, h3, this]
      have hwk : wfI k := by rcases hk with rfl | rfl | rfl <;> (unfold wfI; decide)
      rw [hres]
      refine (wn_pair C v1 v2 rs ps k a b ds g kap w h hB hp hd h3 hv (fun p hp => ?_) TR).mono fun e w' hh => LinePost.of hh (fun hy => by rw [if_pos hy]) (fun hn => by rw [if_neg (by rw [hn]; simp)])
      rcases List.mem_append.1 hp with hp | hp
      · exact hw p hp
      · rw [List.mem_singleton.1 hp]
        exact ⟨⟨hz a (by simp), hz b (by simp)⟩, hwk⟩
  · have hres : numsP (bare rs) ps k zs = none := by unfold numsP; rw [if_neg h2]
    rw [hres]
    obtain ⟨sl, n, c, e⟩ := IsSl.own hv
    have hn : n < 2 := by
      rcases hv.2 with ⟨e2, h0⟩ | ⟨g, cap, cur, e2, _⟩
      · rw [e2] at e; injection e with _ e3; omega
      · rw [e2] at e; injection e with _ e3; omega
    subst e
    exact (wn_short v1 v2 k sl n c w hn).mono fun e w' hh => LinePost.no hB hh

end Go.Proofs.YtdndhhkpbcpalaaDoor
