/-
  A door: the drawing of parts (D3a), with the words of W4.
-/
import Derived.Test.YthafbdpeignccaaW4
import Derived.Test.YthafbdpeignccaaD3a
