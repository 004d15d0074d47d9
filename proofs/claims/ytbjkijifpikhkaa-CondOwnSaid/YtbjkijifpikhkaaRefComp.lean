/-
  The reference's Compare, in one.
-/
import Derived.Test.YtbjkijifpikhkaaProg
import Derived.Test.YtbjkijifpikhkaaLinKit
import Derived.Test.YtbjkijifpikhkaaLinAt
import Derived.Test.YtbjkijifpikhkaaLinMake
import Derived.Test.YtbjkijifpikhkaaLinComp
import Derived.Test.YtbjkijifpikhkaaRefCmp
namespace Go.Proofs.Ytbjkijifpikhkaa
open Go.RowKit
set_option linter.unusedVariables false
set_option linter.unusedSimpArgs false

end Go.Proofs.Ytbjkijifpikhkaa