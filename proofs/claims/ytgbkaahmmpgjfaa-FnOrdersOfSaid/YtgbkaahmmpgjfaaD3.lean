/-
  A door: the drawing of parts (D3a), with the words of W4.
-/
import Derived.Test.YtgbkaahmmpgjfaaW4
import Derived.Test.YtgbkaahmmpgjfaaD3a
