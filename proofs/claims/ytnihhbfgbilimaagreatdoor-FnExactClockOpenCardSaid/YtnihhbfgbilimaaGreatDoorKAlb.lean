import Derived.Test.YtnihhbfgbilimaaGreatDoorXao
import Derived.Test.YtnihhbfgbilimaaGreatDoorAke
import Derived.Test.YtnihhbfgbilimaaGreatDoorKAla
import Derived.Test.YtnihhbfgbilimaaGreatDoorKGaf
namespace Go.Proofs.YtnihhbfgbilimaaGreatDoor
open Go.RowKit
set_option linter.unusedVariables false
theorem solF_len (css : List (List Int)) (V : Nat) : ∀ (n : Nat) (st : Int) (L : List (List Int)) (D : List Int), (solF css V n st L D).2.1.length ≤ V
 | 0, st, L, D => by simp [solF]
 | n + 1, st, L, D => by
  unfold solF
  split
  ·split
   ·exact trL_len _ _
   ·exact solF_len css V n _ _ _
  ·split
   ·simp
   ·exact solF_len css V n _ _ _
theorem askR_len (rs : List LSt) (ps : List LPr) (top : Int) (ids : List Int) (bud : Int) : (askR rs ps top ids bud).1.2.1.length ≤ 1048576 := by
 unfold askR
 by_cases h : SolOk (cnN rs ps top ids : Nat) (cnA rs ps top ids) bud
 ·rw [solA_yes h]
  have h1 := solF_len (cnA rs ps top ids) ((cnN rs ps top ids : Nat) : Int).toNat bud.toNat 0 [] []
  have h2 := h.1.1.2
  refine Nat.le_trans h1 ?_
  omega
 ·unfold solA
  rw [B_no h]
  simp
set_option maxHeartbeats 1000000 in
theorem sask_any (sl : Option Addr) (cap : Nat) (sl2 : Option Addr) (cap2 : Nat) (top : Int) (sl3 : Option Addr) (cap3 : Nat) (bud : Int) (rs : List LSt) (ps : List LPr) (ids : List Int) (w : World) (hn : rs.length ≤ 1048576) (hl : ids.length ≤ 1048576) (hz : Sts w sl rs) (hp : Prs w sl2 ps) (hi : Ints w sl3 ids) :
  Calls Tryz.prog 18 #[TV sl rs.length cap sl2 ps.length cap2, .int .i64 top, .slice sl3 ids.length cap3, .int .i64 bud] w (AskPost (400 < ids.length) (¬ (IdsR rs ps ids ∧ BudR bud)) (askR rs ps top ids bud).1 (enCells (askP rs ps top ids bud)) (askP rs ps top ids bud).length w) :=
 saa_any sl rs.length cap sl2 ps.length cap2 top sl3 ids.length cap3 bud (IdsR rs ps ids) (cnN rs ps top ids : Nat) (cnA rs ps top ids) (askR rs ps top ids bud) (enCells (askP rs ps top ids bud)) (askP rs ps top ids bud).length w (by unfold maxLen; omega)
  (fun W hW => sir_any sl cap sl2 cap2 sl3 cap3 rs ps ids W hn hl (hz.below hW) (hp.below hW) (hi.below hW))
  (fun W hW => sco_any sl cap sl2 cap2 sl3 cap3 rs ps top ids W hn hl (hz.below hW) (hp.below hW) (hi.below hW))
  (fun W v cs hW o e => by
   obtain ⟨s, c, rfl, hc⟩ := o.cls
   obtain ⟨f1, f2, f3⟩ := cs_fit e
   have := sso_any (cnN rs ps top ids : Nat) bud s c cs W f1 f2 f3 hc
   rw [e] at this
   exact this)
  (fun W v hW o _ => by
   obtain ⟨s, c, rfl, hs⟩ := own_ints o
   exact spo_any sl cap sl2 cap2 sl3 cap3 s c rs ps ids _ top W hn hl (askR_len rs ps top ids bud) (hz.below hW) (hp.below hW) (hi.below hW) hs)
end Go.Proofs.YtnihhbfgbilimaaGreatDoor
