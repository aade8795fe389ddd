/-
  Layer 3: what names are: from the text on trimming. Own work.
-/
import Derived.Test.YtpbkidmdfibaoaaDoorTrim1
namespace Go.Proofs.YtpbkidmdfibaoaaDoor
end Go.Proofs.YtpbkidmdfibaoaaDoor
