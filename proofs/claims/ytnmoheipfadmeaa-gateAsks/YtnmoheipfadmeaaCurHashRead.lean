/-
  In this seat there is no cursor.
-/
import Derived.Test.YtnmoheipfadmeaaEqHash
