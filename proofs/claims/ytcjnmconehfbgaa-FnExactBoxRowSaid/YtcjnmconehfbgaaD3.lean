/-
  A door: the drawing of parts (D3a), with the words of W4.
-/
import Derived.Test.YtcjnmconehfbgaaW4
import Derived.Test.YtcjnmconehfbgaaD3a
