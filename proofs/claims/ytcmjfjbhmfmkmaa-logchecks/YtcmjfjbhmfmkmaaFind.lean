/- What textsError answers: whether there are too many texts, or one is too long. -/
import Derived.Test.YtcmjfjbhmfmkmaaList
namespace Go.Proofs.Ytcmjfjbhmfmkmaa
open Go.RowKit Go.Shelf
end Go.Proofs.Ytcmjfjbhmfmkmaa
