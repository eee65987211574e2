/- The library's contracts of slices.Grow and slices.Clone at this program's numbers. -/
import Derived.Shelf.Lay
import Derived.Shelf.LaySoft
import Derived.Shelf.Spec.SlicesGrow
import Derived.Shelf.Slices.Clone
import Derived.Ground.Names7Prog
import Derived.Ground.Names2Prog
import Derived.Test.YtbdoekffadmejaaGreatDoorRows
namespace Go.Proofs
open Go.Shelf
shelf_lay_g Lays8.n4 Nm8 4 at Tryz 171 as Tryz.growI
shelf_lay Lays2.n15 Nm2 15 at Tryz as Tryz.cloneI
end Go.Proofs
