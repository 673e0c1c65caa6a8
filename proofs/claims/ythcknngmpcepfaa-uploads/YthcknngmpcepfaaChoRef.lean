/- The contract of the document's own other slot. -/
import Derived.Test.YthcknngmpcepfaaBagCho
import Derived.Test.YthcknngmpcepfaaBagAct
namespace Go.Proofs.Ythcknngmpcepfaa.ChoRef
open Go.Proofs.Ythcknngmpcepfaa Go.RowKit Go.Proofs.Ythcknngmpcepfaa.Bytes Go.Proofs.Ythcknngmpcepfaa.Jou Go.Proofs.Ythcknngmpcepfaa.Act Go.Proofs.Ythcknngmpcepfaa.ActNext Go.Proofs.Ythcknngmpcepfaa.Cho

end Go.Proofs.Ythcknngmpcepfaa.ChoRef
