import Derived.Test.YtohnhfopigjpmabClkTick
import Derived.Test.YtohnhfopigjpmabVecFrames
namespace Go.Proofs.Ytohnhfopigjpmab

theorem clock_all : Rows.ClockAllSaid := clockAll_holds at_said leq_said same_said max_said tick_said
theorem clock_laws : Rows.ClockLawsSaid := clockLaws_holds at_said leq_said same_said max_said tick_said
end Go.Proofs.Ytohnhfopigjpmab
