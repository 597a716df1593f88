/-
  THE IDS AS THEY STAND, as the program gathers them.
-/
import Derived.Test.YtllaiigjkchahaaDoorAd
import Derived.Deep.AppendLies
import Derived.WalkSmall
import Derived.OwnWalk
namespace Go.Proofs.YtllaiigjkchahaaDoor
open Go.RowKit
set_option linter.unusedVariables false

theorem info2' : (Tryd.prog.info? 2).map (fun i => (i.zero, i.size, i.bytes)) = some (some (.int .i64 0), 1, 8) := by kernel_rfl

theorem cell_one_new' (w : World) (o : Obj) (a : Value) (t : TypeId) : ∀ (j : Nat) (u : Value), [a][j]? = some u → ((w.alloc o).alloc (.cells #[a] t)).cell? ((⟨w.heap.size + 1, 0, none⟩ : Addr).add j) = some u := by
  have := cell_one_new (w.alloc o) a t
  rwa [show (w.alloc o).heap.size = w.heap.size + 1 by simp] at this



end Go.Proofs.YtllaiigjkchahaaDoor
