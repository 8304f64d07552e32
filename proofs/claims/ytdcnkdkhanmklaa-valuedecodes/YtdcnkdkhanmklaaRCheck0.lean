/- The document's Check. -/
import Derived.Test.YtdcnkdkhanmklaaRRnk
import Derived.Test.YtdcnkdkhanmklaaWrite
namespace Go.Proofs.Ytdcnkdkhanmklaa.RCheck0
open Go.RowKit Go.Maps
open Go.Proofs.Ytdcnkdkhanmklaa.SetMath
open Go.Proofs.Ytdcnkdkhanmklaa.ValueMath
open Go.Proofs.Ytdcnkdkhanmklaa.Base
open Go.Proofs.Ytdcnkdkhanmklaa.Vals
open Go.Proofs.Ytdcnkdkhanmklaa.Check0
open Go.Proofs.Ytdcnkdkhanmklaa.May
open Go.Proofs.Ytdcnkdkhanmklaa.MayR
open Go.Proofs.Ytdcnkdkhanmklaa.RChk
open Go.Proofs.Ytdcnkdkhanmklaa.RRnk
set_option linter.unusedVariables false
set_option linter.unusedSimpArgs false
def rcB (k : Int) (bL bt bl bf br em va fo ro al : Bool) : Int := if (bL || (bt && k != 1) || (bl && k != 2 && k != 4) || (bf && k != 3) || (br && k != 5)) then 131 else if (em || (k == 4 && !va) || !fo || !ro || !al) then 131 else 0
theorem ret_i {a b : Int} (h : a = b) : Ending.returned (.int .i64 a) = .returned (.int .i64 b) := by rw [h]

end Go.Proofs.Ytdcnkdkhanmklaa.RCheck0
