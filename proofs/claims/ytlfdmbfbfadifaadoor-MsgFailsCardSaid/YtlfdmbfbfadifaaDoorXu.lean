/-
  What the statements MsgFails rest on.
-/
import Derived.Test.YtlfdmbfbfadifaaDoorXi
import Derived.Test.YtlfdmbfbfadifaaDoorXe
