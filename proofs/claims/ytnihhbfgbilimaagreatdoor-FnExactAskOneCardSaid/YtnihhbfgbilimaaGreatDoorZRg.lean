import Derived.Test.YtnihhbfgbilimaaGreatDoorZSb
import Derived.Test.YtnihhbfgbilimaaGreatDoorKQaj
import Derived.Test.YtnihhbfgbilimaaGreatDoorZRb
import Derived.Test.YtnihhbfgbilimaaGreatDoorZRa
import Derived.Test.YtnihhbfgbilimaaGreatDoorKQak
import Derived.Test.YtnihhbfgbilimaaGreatDoorKAlb
namespace Go.Proofs.YtnihhbfgbilimaaGreatDoor
open Go.RowKit
set_option linter.unusedVariables false
theorem B_bool (b : Bool) : B (b = true) = b := by
 cases b
 ·exact B_no (by decide)
 ·exact B_yes rfl
theorem addA_len (rs : List LSt) (ps : List LPr) (top : Int) (pl : List LPl) (id : Int) : (addA rs ps top pl id).length ≤ pl.length + 1 := by
 have h : ∀ ds : List Int, (addL ps pl id ds).length ≤ pl.length + 1 := by
  intro ds
  induction ds with
  | nil => simp [addL]
  | cons c r ih =>
   unfold addL
   split
   ·rw [withL_len]; exact Nat.le_refl _
   ·exact ih
 unfold addA
 split
 ·exact h _
 ·exact Nat.zero_le _
noncomputable abbrev oneP (rs : List LSt) (ps : List LPr) (top : Int) (pl : List LPl) (id bud : Int) (w : World) : Ending → World → Prop :=
 OnePost (400 < pl.length) (¬ (planB rs ps top pl = true ∧ IdsR rs ps (widL pl id) ∧ BudR bud)) (addA rs ps top pl id) (askR rs ps top (widL pl id) bud) (enCells (askP rs ps top (widL pl id) bud)) (askP rs ps top (widL pl id) bud).length w
set_option maxHeartbeats 1000000 in
theorem ione_any (sl : Option Addr) (cap : Nat) (sl2 : Option Addr) (cap2 : Nat) (top : Int) (sl3 : Option Addr) (cap3 : Nat) (id bud : Int) (rs : List LSt) (ps : List LPr) (pl : List LPl) (w : World) (hn : rs.length ≤ 1048576) (hl : pl.length ≤ 1048576) (hz : Sts w sl rs) (hp : Prs w sl2 ps) (hw : ∀ p ∈ ps, WfP p) (hi : Pls w sl3 pl) (hc3 : pl.length ≤ cap3) (hT : TabB w) :
  Calls Tryz.prog 32 #[TV sl rs.length cap sl2 ps.length cap2, .int .i64 top, .slice sl3 pl.length cap3, .int .i64 id, .int .i64 bud] w (oneP rs ps top pl id bud w) :=
 have hwl : (widL pl id).length ≤ maxLen := by rw [widL_len]; have := pidsA_len pl; unfold maxLen; omega
 iao_any sl rs.length cap sl2 ps.length cap2 top sl3 pl.length cap3 id bud (widL pl id) (planB rs ps top pl = true) (IdsR rs ps (widL pl id)) (addA rs ps top pl id) (askR rs ps top (widL pl id) bud) (enCells (askP rs ps top (widL pl id) bud)) (askP rs ps top (widL pl id) bud).length w (by unfold maxLen; omega)
  (fun W hW => wid_any sl3 cap3 pl id W hl (hi.below hW))
  (fun W hW => by rw [B_bool]; exact ipr_any sl cap sl2 cap2 sl3 cap3 rs ps pl top W hn hl (hz.below hW) (hp.below hW) hw (hi.below hW) hc3)
  (fun W s c hW o => by
   obtain ⟨s', c', e, hs⟩ := own_ints o
   cases e
   exact iir_any sl cap sl2 cap2 s c rs ps (widL pl id) W hn hwl (hz.below hW) (hp.below hW) hw hs)
  (fun _ _ _ _ W h hW HA => bac_any h sl rs.length cap sl2 ps.length cap2 top sl3 pl.length cap3 id (addA rs ps top pl id) W HA (by have := addA_len rs ps top pl id; omega)
   (fun W' hW' => ipa_any sl cap sl2 cap2 sl3 cap3 rs ps pl top id W' hn hl (hz.below (bT hW hW')) (hp.below (bT hW hW')) hw (hi.below (bT hW hW')) hc3))
  (fun _ _ _ _ W h s c hW o HB => by
   obtain ⟨s', c', e, hs⟩ := own_ints o
   cases e
   exact byc_any h sl rs.length cap sl2 ps.length cap2 top s (widL pl id).length c bud (cnN rs ps top (widL pl id) : Nat) (cnA rs ps top (widL pl id)) (enCells (askP rs ps top (widL pl id) bud)) (askP rs ps top (widL pl id) bud).length (askR rs ps top (widL pl id) bud) W HB
    (fun W' hW' => ico_any sl cap sl2 cap2 s c rs ps top (widL pl id) W' hn hwl (hz.below (bT hW hW')) (hp.below (bT hW hW')) hw (hs.below hW'))
    (fun W' v cs hW' o e => by
     obtain ⟨s, c, rfl, hc⟩ := o.cls
     obtain ⟨f1, f2, f3⟩ := cs_fit e
     have := iso_any (cnN rs ps top (widL pl id) : Nat) bud s c cs W' f1 hc (fun l hl z hz => by obtain ⟨r, hr, rfl⟩ := List.mem_map.1 hl; exact f3 r hr z hz) (hT.belowT (bT hW hW'))
     rw [e] at this
     exact this)
    (fun W' v hW' o _ => by
     have ol := own_len o
     obtain ⟨s9, c9, rfl, hs9⟩ := own_ints o
     exact ipo_any sl cap sl2 cap2 s c s9 c9 rs ps (widL pl id) _ top W' hn hwl ol (hz.below (bT hW hW')) (hp.below (bT hW hW')) hw (hs.below hW') hs9))
theorem good_ids {rs : List LSt} {ps : List LPr} {top : Int} {pl : List LPl} {id : Int} (h : planB rs ps top pl = true) (h1 : 0 ≤ posOf (idsL rs) id) (h2 : ¬ id ∈ pidsA pl) : IdsR rs ps (widL pl id) ∧ pl.length ≤ 399 ∧ pidsA (withL pl (id, 0)) = (widL pl id) := by
 have ok := (planB_ok rs ps top pl).1 h
 rw [pidsA_eq ok.ln] at h2
 have h3 : id ∈ idsL rs := Classical.byContradiction fun hn => by have := (posOf_neg (idsL rs) id).2 hn; omega
 have g := (wid_ids ok).2 ⟨h3, h2⟩
 have hl : pl.length ≤ 399 := by have := g.1; rw [widL_len, pidsA_eq ok.ln, pidsL_len] at this; omega
 exact ⟨g, hl, by rw [pidsA_eq (by rw [withL_len]; omega)]; exact (wid_with ok (ids_pair ok.ids) h2).symm⟩
theorem good_iff (rs : List LSt) (ps : List LPr) (top : Int) (pl : List LPl) (id bud : Int) : (planB rs ps top pl = true ∧ 0 ≤ posOf (idsL rs) id ∧ ¬ id ∈ pidsA pl ∧ BudR bud) ↔ (planB rs ps top pl = true ∧ IdsR rs ps (widL pl id) ∧ BudR bud) := by
 constructor
 ·rintro ⟨h, h1, h2, h3⟩
  exact ⟨h, (good_ids h h1 h2).1, h3⟩
 ·rintro ⟨h, g, h3⟩
  have ok := (planB_ok rs ps top pl).1 h
  obtain ⟨g1, g2⟩ := (wid_ids ok).1 g
  refine ⟨h, ?_, by rw [pidsA_eq ok.ln]; exact g2, h3⟩
  exact Classical.byContradiction fun hn => (posOf_neg (idsL rs) id).1 (by omega) g1
set_option maxHeartbeats 1000000 in
theorem sone_any (sl : Option Addr) (cap : Nat) (sl2 : Option Addr) (cap2 : Nat) (top : Int) (sl3 : Option Addr) (cap3 : Nat) (id bud : Int) (rs : List LSt) (ps : List LPr) (pl : List LPl) (w : World) (hn : rs.length ≤ 1048576) (hl : pl.length ≤ 1048576) (hz : Sts w sl rs) (hp : Prs w sl2 ps) (hi : Pls w sl3 pl) :
  Calls Tryz.prog 30 #[TV sl rs.length cap sl2 ps.length cap2, .int .i64 top, .slice sl3 pl.length cap3, .int .i64 id, .int .i64 bud] w (oneP rs ps top pl id bud w) := by
 unfold oneP
 rw [← propext (good_iff rs ps top pl id bud)]
 exact sao_any sl rs.length cap sl2 ps.length cap2 top sl3 pl.length cap3 id bud (posOf (idsL rs) id) (pidsA pl) (widL pl id) (planB rs ps top pl = true) (id ∈ pidsA pl) (addA rs ps top pl id) (askR rs ps top (widL pl id) bud) (enCells (askP rs ps top (widL pl id) bud)) (askP rs ps top (widL pl id) bud).length w (by unfold maxLen; omega)
  (fun W hW => by rw [B_bool]; exact spr_any sl cap sl2 cap2 sl3 cap3 rs ps pl top W hn hl (hz.below hW) (hp.below hW) (hi.below hW))
  (fun W hW => fd_any sl cap sl2 _ cap2 id rs W hn (hz.below hW))
  (fun W hW => spi_any sl3 cap3 pl W (by unfold maxLen; omega) (hi.below hW))
  (fun W s c hW o => by
   obtain ⟨s', c', e, hs⟩ := own_ints o
   cases e
   refine (lh_any s c (pidsA pl) id W (by have := pidsA_len pl; unfold maxLen; omega) hs).mono ?_
   rintro e w' ⟨rfl, rfl⟩
   exact ⟨rfl, Below.refl _ _⟩)
  (fun _ _ _ _ _ W hW => spa_any sl cap sl2 cap2 sl3 cap3 rs ps pl top id W hn hl (hz.below hW) (hp.below hW) (hi.below hW))
  (fun _ h h1 h2 _ W hW => by
   obtain ⟨g, gl, ge⟩ := good_ids h h1 h2
   refine (wi_any sl3 cap3 pl id 0 W (by omega) (hi.below hW)).mono ?_
   rintro e w' ⟨v, rfl, o, b⟩
   refine ⟨v, rfl, fun W' hW' => ?_, b⟩
   obtain ⟨s, k, rfl, hs⟩ := own_row2 o
   have := spi_any s k (withL pl (id, 0)) W' (by rw [withL_len]; unfold maxLen; omega) (hs.below hW')
   rw [ge] at this
   exact this)
  (fun _ h h1 h2 h3 W s c hW o => by
   obtain ⟨g, gl, ge⟩ := good_ids h h1 h2
   obtain ⟨s', c', e, hs⟩ := own_ints o
   cases e
   refine (sask_any sl cap sl2 cap2 top s c bud rs ps (widL pl id) W hn (by have := g.1; omega) (hz.below hW) (hp.below hW) hs).mono ?_
   rintro e w' ⟨b, ⟨h4, _⟩ | ⟨_, h5, _⟩ | ⟨_, _, s1, n1, c1, s2, n2, c2, s3, n3, c3, rfl, hf⟩⟩
   ·exact absurd h4 (by have := g.1; omega)
   ·exact absurd ⟨g, h3⟩ h5
   ·exact ⟨s1, n1, c1, s2, n2, c2, s3, n3, c3, rfl, hf, b⟩)
end Go.Proofs.YtnihhbfgbilimaaGreatDoor
