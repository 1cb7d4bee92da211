import Derived.Test.YtiaedjnedoemoabDjRacyP
import Derived.Test.YtiaedjnedoemoabDjStampsFrame
namespace Go.Proofs.Ytiaedjnedoemoab

theorem djit_stamps : Rows.DjitStampsSaid := djitStamps_holds stamps_said stampsNo_said racy_said
end Go.Proofs.Ytiaedjnedoemoab
