/-
  What the statements MsgAnswers rest on.
-/
import Derived.Test.YtlfdmbfbfadifaaDoorXd
import Derived.Test.YtlfdmbfbfadifaaDoorXe
