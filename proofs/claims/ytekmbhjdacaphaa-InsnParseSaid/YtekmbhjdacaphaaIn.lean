/- What the calls of the package insn on bytes return, all of them: as the chapter says. -/
import Derived.Test.YtekmbhjdacaphaaEe
namespace Go.Proofs.Ytekmbhjdacaphaa
theorem insnB : InsnB := ⟨encodeC, decodeC, decodeBadC, printC, printLongC, parseC, parseBadC, parseLongC⟩
end Go.Proofs.Ytekmbhjdacaphaa
