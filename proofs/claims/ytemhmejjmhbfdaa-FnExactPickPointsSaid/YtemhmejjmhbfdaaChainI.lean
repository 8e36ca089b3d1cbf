/- The program's chains: all contracts but that of StaysWithin. -/
import Derived.Test.YtemhmejjmhbfdaaChainI3
import Derived.Test.YtemhmejjmhbfdaaChainI4
import Derived.Test.YtemhmejjmhbfdaaChainI5
import Derived.Test.YtemhmejjmhbfdaaChainI6
