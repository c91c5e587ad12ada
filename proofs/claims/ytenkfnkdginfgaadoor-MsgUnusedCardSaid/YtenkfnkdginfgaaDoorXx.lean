/-
  What the statements MsgUnused rest on.
-/
import Derived.Test.YtenkfnkdginfgaaDoorXg
import Derived.Test.YtenkfnkdginfgaaDoorXe
