/-
  What the statements MsgFails rest on.
-/
import Derived.Test.YtenkfnkdginfgaaDoorXi
import Derived.Test.YtenkfnkdginfgaaDoorXe
