/-
  The program's functions: Dec, Hex, Digit, Prefix, DecText, HexText, Same.
-/
import Derived.Test.YtekbahpobhjobaaDoorNVal
import Derived.Test.YtekbahpobhjobaaDoorNFmt
import Derived.Test.YtekbahpobhjobaaDoorNSameP
