/-
  Itoa of the shelf lies in Shelf.
-/
import Derived.Test.YtjmainmidacmfaaDoorShelf
