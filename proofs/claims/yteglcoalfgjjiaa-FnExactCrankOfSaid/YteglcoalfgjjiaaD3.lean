/-
  A door: the drawing of parts (D3a), with the words of W4.
-/
import Derived.Test.YteglcoalfgjjiaaW4
import Derived.Test.YteglcoalfgjjiaaD3a
