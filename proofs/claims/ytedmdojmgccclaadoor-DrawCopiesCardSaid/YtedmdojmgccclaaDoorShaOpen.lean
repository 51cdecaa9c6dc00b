/-
  Arrays of words, or of bytes, that came in, laid open, beside the listed variable.
-/
import Derived.Test.YtedmdojmgccclaaDoorShaLaid
import Derived.Test.YtedmdojmgccclaaDoorOpen
