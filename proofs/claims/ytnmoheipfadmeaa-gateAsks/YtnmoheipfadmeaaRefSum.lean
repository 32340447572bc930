/-
  In this seat there is no hash: what leans on it leans on the plain texts.
-/
import Derived.Test.YtnmoheipfadmeaaEqHash
