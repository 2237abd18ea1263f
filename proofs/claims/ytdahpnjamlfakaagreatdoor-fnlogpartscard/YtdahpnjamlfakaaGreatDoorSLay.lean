import Derived.Test.YtdahpnjamlfakaaGreatDoorQLay
import Derived.Shelf.SortM.Plain
import Derived.Shelf.SortM.SortNone
import Derived.Shelf.Slices.CompactS
import Derived.Ground.SlgmProg
import Derived.Ground.NamesProg
