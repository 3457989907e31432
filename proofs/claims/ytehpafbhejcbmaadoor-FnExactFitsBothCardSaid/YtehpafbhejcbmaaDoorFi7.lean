/-
  impl.filledGraph.
-/
import Derived.Test.YtehpafbhejcbmaaDoorPj7
import Derived.Test.YtehpafbhejcbmaaDoorTl7
import Derived.Test.YtehpafbhejcbmaaDoorCl9
namespace Go.Proofs.YtehpafbhejcbmaaDoor
set_option maxRecDepth 100000
set_option maxRecDepth 100000
open Go.RowKit Go.Shelf

attribute [local go_sem] Oper.semAt_some

end Go.Proofs.YtehpafbhejcbmaaDoor
