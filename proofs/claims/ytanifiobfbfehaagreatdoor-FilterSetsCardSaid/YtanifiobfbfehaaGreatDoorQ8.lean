/- All calls of the landed filter return what the chapter says. Conditions: names' tables lie in their variables. -/
import Derived.Test.YtanifiobfbfehaaGreatDoorQ5
namespace Go.Proofs.YtanifiobfbfehaaGreatDoor
open Go.RowKit Go.Shelf
set_option linter.unusedVariables false
set_option linter.unusedSimpArgs false

theorem filterC : FilterC GN where
  on := GN.on
  key := fun s w _ hs => key_c17 s (by unfold maxLen; omega) w
  errno := fun s w hG hs => errno_c17 s (by unfold maxLen; omega) w hG
  set := fun p P a w hG ok hP h1 h2 h3 h4 h5 h6 => set_c17 p P a w hG ok hP h1 h2 h3 h4 h5 h6
  fold := fun u V sfx w hG hV hn hs => (fold_c u V sfx w hG hV hn hs).mono fun e w' ⟨q, n, c, vN, h1, h2, h3, h4, h5⟩ => ⟨q, n, c, vN, h1, h2, FoldL.ls h3 h2, nts_rows h4, h5⟩
end Go.Proofs.YtanifiobfbfehaaGreatDoor
