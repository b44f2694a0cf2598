/- The shelf's contracts, laid at this translation by the kit's own command. -/
import Derived.Shelf.Lay
import Derived.Shelf.LaySoft

import Derived.Test.YtmpmnehapildeaaProg
namespace Go.Proofs
open Go.Shelf
shelf_tried
end Go.Proofs
