/-
  What the statements MsgKinds, MsgNames rest on.
-/
import Derived.Test.YtlfdmbfbfadifaaDoorXc
import Derived.Test.YtlfdmbfbfadifaaDoorXe
