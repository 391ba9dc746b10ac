/- Joined: BkToB, BkToC, BkToD, OwB. -/
import Derived.Test.YtfmhkicncgccjaaGreatFm07
/- What the law's own copying functions answer of lists of spots, of parts and of books. -/
namespace Go.Proofs.YtfmhkicncgccjaaGreat
open Go.RowKit Go.Sort
set_option linter.unusedSimpArgs false
set_option linter.unusedVariables false

end Go.Proofs.YtfmhkicncgccjaaGreat

/- What the law's own copying functions answer of lists of parts and of books. -/
namespace Go.Proofs.YtfmhkicncgccjaaGreat
open Go.RowKit Go.Sort
set_option linter.unusedSimpArgs false
set_option linter.unusedVariables false

end Go.Proofs.YtfmhkicncgccjaaGreat

/- What the law's own toClaimBook answers. -/
namespace Go.Proofs.YtfmhkicncgccjaaGreat
open Go.RowKit Go.Sort
set_option linter.unusedSimpArgs false
set_option linter.unusedVariables false

end Go.Proofs.YtfmhkicncgccjaaGreat

/- Copies that own their memory: lists and spots. -/
namespace Go.Proofs.YtfmhkicncgccjaaGreat
open Go.RowKit Go.Sort
set_option linter.unusedSimpArgs false
set_option linter.unusedVariables false

theorem Only.cell (w : World) (p : Addr) (v : Value) : Only (fun y => y = p.block) w (w.setCell p v) :=
 ⟨rfl, rfl, rfl, by simp [World.setCell], fun k hk hn => Go.Deep.blk_setCell_other _ _ _ _ hn⟩
end Go.Proofs.YtfmhkicncgccjaaGreat

