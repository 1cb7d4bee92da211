import Derived.Test.YtbajfapfpcjenaaFa14
import Derived.Test.YtbajfapfpcjenaaFa15
namespace Go.Proofs.Ytbajfapfpcjenaa
theorem fast_first : Rows.FastFirstUptoSaid := fastFirst_holds fast_said first_said
end Go.Proofs.Ytbajfapfpcjenaa
