import Derived.Test.YtomhdopbbnmcnabFb14
import Derived.Test.YtomhdopbbnmcnabFb17
namespace Go.Proofs.Ytomhdopbbnmcnab
theorem fast_sees : Rows.FastSeesUptoSaid := fastSees_holds fast_said
end Go.Proofs.Ytomhdopbbnmcnab
