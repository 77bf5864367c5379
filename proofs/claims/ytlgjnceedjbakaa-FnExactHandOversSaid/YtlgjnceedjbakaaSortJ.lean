/-
  SortTasks of the program: the library's stable sort, SortTasks.
  Conditions: at most eight tasks where they are sorted; lists of at most 1048576 elements.
-/
import Derived.Test.YtlgjnceedjbakaaSortI
namespace Go.Proofs.Ytlgjnceedjbakaa
open Go.RowKit Go.Shelf
attribute [local go_sem] Oper.semAt_some

end Go.Proofs.Ytlgjnceedjbakaa
