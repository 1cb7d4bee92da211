import Derived.Test.YtiaedjnedoemoabDjRacyP
import Derived.Test.YtiaedjnedoemoabDjFrames
namespace Go.Proofs.Ytiaedjnedoemoab

theorem djit_racy : Rows.DjitRacyUptoSaid := djitRacy_holds stamps_said racy_said
end Go.Proofs.Ytiaedjnedoemoab
