/-
  What the statements MsgChecks rest on.
-/
import Derived.Test.YtlfdmbfbfadifaaDoorXf
import Derived.Test.YtlfdmbfbfadifaaDoorXe
