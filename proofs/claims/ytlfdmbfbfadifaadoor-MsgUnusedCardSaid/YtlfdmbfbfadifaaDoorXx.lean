/-
  What the statements MsgUnused rest on.
-/
import Derived.Test.YtlfdmbfbfadifaaDoorXg
import Derived.Test.YtlfdmbfbfadifaaDoorXe
