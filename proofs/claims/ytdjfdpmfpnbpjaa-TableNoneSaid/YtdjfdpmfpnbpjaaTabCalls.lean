/- What the program's table does, call by call. The only condition: there are not more entries than may be. -/
import Derived.Test.YtdjfdpmfpnbpjaaTabTake
