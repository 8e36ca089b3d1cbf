/- The program's contracts of stage 8. -/
import Derived.Test.YtemhmejjmhbfdabColsP3
import Derived.Test.YtemhmejjmhbfdabColsP12
import Derived.Test.YtemhmejjmhbfdabColsP13
