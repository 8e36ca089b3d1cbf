/- The program's caps: all contracts. -/
import Derived.Test.YtiemealkdgnhcaaCapsI3
import Derived.Test.YtiemealkdgnhcaaCapsI4
import Derived.Test.YtiemealkdgnhcaaCapsI5
