import Derived.Test.YtnofaodahcfldabDoorTrieW
namespace Go.Proofs.YtnofaodahcfldabDoor
set_option maxRecDepth 1000000
theorem all_apart : goV 15 91632 2147483648 (noTr 15) = True := by kernel_rfl
end Go.Proofs.YtnofaodahcfldabDoor
