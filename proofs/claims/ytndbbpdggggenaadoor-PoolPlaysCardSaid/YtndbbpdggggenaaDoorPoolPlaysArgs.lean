/-
  PoolPlays and the law's calls.
-/
import Derived.Test.YtndbbpdggggenaaDoorPoolPlays
import Derived.Test.YtndbbpdggggenaaDoorPoolActs
import Derived.Test.YtndbbpdggggenaaDoorBitsTab
