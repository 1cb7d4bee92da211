import Derived.Test.YtomhdopbbnmcnabFa14
import Derived.Test.YtomhdopbbnmcnabFa15
namespace Go.Proofs.Ytomhdopbbnmcnab
theorem fast_first : Rows.FastFirstUptoSaid := fastFirst_holds fast_said first_said
end Go.Proofs.Ytomhdopbbnmcnab
