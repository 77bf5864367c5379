/-
  The law on AskMore: at every argument the function answers as its model, writes into no argument, and its answer owns its memory.
  Conditions: none but the row's own.
-/
import Derived.Test.YtoflgfenlbibpaaAsk
import Derived.Test.YtoflgfenlbibpaaLaw
namespace Go.Proofs.Ytoflgfenlbibpaa
open Go.RowKit Go.Shelf

