/- A struct of four, out of its reading. -/
import Derived.Test.YtljppkpieoejlaaCRead
import Derived.Lib.SmallJoins
