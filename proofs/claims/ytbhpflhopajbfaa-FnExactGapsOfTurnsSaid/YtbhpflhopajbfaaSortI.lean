/-
  SortTasks of the program: the comparison that the program hands over, the library's stable sort of at most eight elements.
  Conditions: at most eight tasks.
-/
import Derived.Test.YtbhpflhopajbfaaSort
import Derived.Deep.RegionHeld3
namespace Go.Proofs.Ytbhpflhopajbfaa
open Go.RowKit Go.Shelf
attribute [local go_sem] Oper.semAt_some

end Go.Proofs.Ytbhpflhopajbfaa
