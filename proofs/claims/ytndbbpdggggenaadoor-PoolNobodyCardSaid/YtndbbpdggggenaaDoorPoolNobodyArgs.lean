/-
  PoolNobody and the library's table.
-/
import Derived.Test.YtndbbpdggggenaaDoorPoolNobody
import Derived.Test.YtndbbpdggggenaaDoorBitsTab
