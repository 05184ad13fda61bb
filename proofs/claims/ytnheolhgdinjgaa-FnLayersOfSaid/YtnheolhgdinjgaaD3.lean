/-
  A door: the drawing of parts (D3a), with the words of W4.
-/
import Derived.Test.YtnheolhgdinjgaaW4
import Derived.Test.YtnheolhgdinjgaaD3a
