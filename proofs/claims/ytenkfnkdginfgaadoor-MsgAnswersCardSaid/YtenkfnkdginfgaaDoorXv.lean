/-
  What the statements MsgAnswers rest on.
-/
import Derived.Test.YtenkfnkdginfgaaDoorXd
import Derived.Test.YtenkfnkdginfgaaDoorXe
