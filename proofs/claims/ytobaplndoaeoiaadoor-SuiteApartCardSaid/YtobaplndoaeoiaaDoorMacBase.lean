/-
  The leaves of sha.
-/
import Derived.Test.YtobaplndoaeoiaaDoorRd
import Derived.Test.YtobaplndoaeoiaaDoorBase
import Derived.Test.YtobaplndoaeoiaaDoorLeaf
