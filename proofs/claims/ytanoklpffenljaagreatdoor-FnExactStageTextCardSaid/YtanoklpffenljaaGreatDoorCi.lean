/-
  A CLOCK OF THE LAWS, as it lies.
-/
import Derived.Test.YtanoklpffenljaaGreatDoorCc
import Derived.Test.YtanoklpffenljaaGreatDoorAq
namespace Go.Proofs.YtanoklpffenljaaGreatDoor
open Go.RowKit
set_option linter.unusedVariables false

structure InC (w : World) (sl tl bl pl : Option Addr) (rs : List LSt) (ps : List LPr) (bs : List LPr) (ls : List LPl) : Prop where
  t : InT w sl tl rs ps
  bd : Prs w bl bs
  pl : Pls w pl ls
  lb : bs.length ≤ maxLen
  ll : ls.length ≤ maxLen

end Go.Proofs.YtanoklpffenljaaGreatDoor
