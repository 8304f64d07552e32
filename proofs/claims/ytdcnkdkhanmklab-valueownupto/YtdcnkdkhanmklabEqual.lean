/- slices.Equal over fields, entries and texts. -/
import Derived.Test.YtdcnkdkhanmklabNeq
import Derived.Test.YtdcnkdkhanmklabSmall
import Derived.Test.YtdcnkdkhanmklabShelf
namespace Go.Proofs.Ytdcnkdkhanmklab.Equal
open Go.RowKit Go.Maps
open Go.Proofs.Ytdcnkdkhanmklab.SetMath
open Go.Proofs.Ytdcnkdkhanmklab.Base
open Go.Proofs.Ytdcnkdkhanmklab.Neq
set_option linter.unusedVariables false

end Go.Proofs.Ytdcnkdkhanmklab.Equal
