
import Derived.Test.YtaipfcfmhdigfaaLzP8
namespace Go.Proofs.Ytaipfcfmhdigfaa
/-! The landed lz, as the walks of layer 7 name it: popt7, pchk7, psiz7, pexp7 (LzP1, LzP1b), pbest7 (LzP7), ppar7 (LzP8). -/
end Go.Proofs.Ytaipfcfmhdigfaa
