/- The program's log, call by call: all of it. The only condition: places are not near the end of the numbers. -/
import Derived.Test.YtajpmlmacnomfaaLogSlide
import Derived.Test.YtajpmlmacnomfaaLogFrom
