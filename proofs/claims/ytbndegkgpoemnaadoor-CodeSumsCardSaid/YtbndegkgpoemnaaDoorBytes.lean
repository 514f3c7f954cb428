/-
  Slices of bytes: the texts of the codec's have it all.
-/
import Derived.Test.YtbndegkgpoemnaaDoorComD
import Derived.Test.YtbndegkgpoemnaaDoorOpen
namespace Go.Proofs.YtbndegkgpoemnaaDoor
end Go.Proofs.YtbndegkgpoemnaaDoor
