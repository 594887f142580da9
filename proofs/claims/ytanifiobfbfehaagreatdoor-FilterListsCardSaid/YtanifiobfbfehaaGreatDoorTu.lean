/- Some of the chapter's rows, over what the calls of the package fold have to return. -/
import Derived.Test.YtanifiobfbfehaaGreatDoorTs
namespace Go.Proofs.YtanifiobfbfehaaGreatDoor
open Go.RowKit
set_option linter.unusedVariables false
set_option linter.unusedSimpArgs false
attribute [local go_sem ↓] Go.wp_at_zero Go.wp_at_succ

theorem okl_lt {K : ByteArray → Bool} {m : Nat} {L : List Cl} (h : Okl K m L) : ∀ e ∈ L, e.2 < 4294967296 := fun e he => act_lt (h.each e he).2
end Go.Proofs.YtanifiobfbfehaaGreatDoor
