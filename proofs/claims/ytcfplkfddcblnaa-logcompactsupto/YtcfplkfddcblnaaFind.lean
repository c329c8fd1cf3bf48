/- What textsError answers: whether there are too many texts, or one is too long. -/
import Derived.Test.YtcfplkfddcblnaaList
namespace Go.Proofs.Ytcfplkfddcblnaa
open Go.RowKit Go.Shelf
end Go.Proofs.Ytcfplkfddcblnaa
