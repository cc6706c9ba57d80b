/- What the library gives, for the texts of this seat. No condition. -/
import Derived.Test.YtoacbobchngooaaDoorProg
import Derived.Lib.Small
import Derived.Lib.SlicesS
import Derived.Lib.Bytealg
import Derived.Lib.SmallJoins
import Derived.Shelf.Small.Wraps
