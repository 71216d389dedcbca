/-
  The program's functions of package line but One.
-/
import Derived.Test.YtfagjhadfonhdaaLQSplit
import Derived.Test.YtfagjhadfonhdaaLQJoin
