/-
  What the statements MsgKinds, MsgNames rest on.
-/
import Derived.Test.YtenkfnkdginfgaaDoorXc
import Derived.Test.YtenkfnkdginfgaaDoorXe
