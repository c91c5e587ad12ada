/-
  What the statements MsgChecks rest on.
-/
import Derived.Test.YtenkfnkdginfgaaDoorXf
import Derived.Test.YtenkfnkdginfgaaDoorXe
