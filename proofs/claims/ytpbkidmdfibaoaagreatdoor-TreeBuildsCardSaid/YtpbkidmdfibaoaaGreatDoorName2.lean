/-
  Layer 3: what names are: from the text on trimming. Own work.
-/
import Derived.Test.YtpbkidmdfibaoaaGreatDoorTrim1
namespace Go.Proofs.YtpbkidmdfibaoaaGreatDoor
end Go.Proofs.YtpbkidmdfibaoaaGreatDoor
