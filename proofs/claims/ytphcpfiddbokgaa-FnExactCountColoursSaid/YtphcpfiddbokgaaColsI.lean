/- The program's contracts of stage 8. -/
import Derived.Test.YtphcpfiddbokgaaColsP3
import Derived.Test.YtphcpfiddbokgaaColsP12
import Derived.Test.YtphcpfiddbokgaaColsP13
