/- The program's chains: all contracts but that of StaysWithin. -/
import Derived.Test.YtomnijoccnifpaaChainI3
import Derived.Test.YtomnijoccnifpaaChainI4
import Derived.Test.YtomnijoccnifpaaChainI5
import Derived.Test.YtomnijoccnifpaaChainI6
