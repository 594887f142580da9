/- What the calls of the package insn on bytes return, all of them: as the chapter says. -/
import Derived.Test.YtekmbhjdacaphaaDoorEe
namespace Go.Proofs.YtekmbhjdacaphaaDoor
theorem insnB : InsnB := ⟨encodeC, decodeC, decodeBadC, printC, printLongC, parseC, parseBadC, parseLongC⟩
end Go.Proofs.YtekmbhjdacaphaaDoor
