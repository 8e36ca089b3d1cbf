/- The program's maps. -/
import Derived.Test.YtemhmejjmhbfdaaPlatesI12
import Derived.Test.YtemhmejjmhbfdaaPlatesI15
