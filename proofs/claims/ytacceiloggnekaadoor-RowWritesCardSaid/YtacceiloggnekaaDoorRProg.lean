/-
  The program's functions: Rows, Text, Write, Bare, Number, Which; and how the library's variables last.
-/
import Derived.Test.YtacceiloggnekaaDoorRPRows
import Derived.Test.YtacceiloggnekaaDoorRPText
import Derived.Test.YtacceiloggnekaaDoorRPNum
import Derived.Test.YtacceiloggnekaaDoorRPWrite
import Derived.Test.YtacceiloggnekaaDoorRRows
import Derived.Test.YtacceiloggnekaaDoorRText
import Derived.Test.YtacceiloggnekaaDoorRWhich
namespace Go.Proofs.YtacceiloggnekaaDoor
open Go.RowKit
theorem below_one {w wx : World} (o : Obj) (h : Below w.heap.size w wx) : Below w.heap.size w (wx.alloc o) := h.alloc h.size o
end Go.Proofs.YtacceiloggnekaaDoor
