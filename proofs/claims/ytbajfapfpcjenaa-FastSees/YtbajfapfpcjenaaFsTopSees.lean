import Derived.Test.YtbajfapfpcjenaaFb14
import Derived.Test.YtbajfapfpcjenaaFb17
namespace Go.Proofs.Ytbajfapfpcjenaa
theorem fast_sees : Rows.FastSeesUptoSaid := fastSees_holds fast_said
end Go.Proofs.Ytbajfapfpcjenaa
