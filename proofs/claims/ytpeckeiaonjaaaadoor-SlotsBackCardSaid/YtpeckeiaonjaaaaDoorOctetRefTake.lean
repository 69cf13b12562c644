/- Contracts of Num and Take of the document's answer (errandref01). -/
import Derived.Test.YtpeckeiaonjaaaaDoorOctetRefCur
import Derived.BigRegion
import Derived.ChangeAlike
namespace Go.Proofs.YtpeckeiaonjaaaaDoor.Oct
open Go.RowKit

end Go.Proofs.YtpeckeiaonjaaaaDoor.Oct
