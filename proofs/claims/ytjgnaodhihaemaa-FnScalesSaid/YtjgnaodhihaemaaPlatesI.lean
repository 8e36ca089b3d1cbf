/- The program's maps. -/
import Derived.Test.YtjgnaodhihaemaaPlatesI12
import Derived.Test.YtjgnaodhihaemaaPlatesI15
