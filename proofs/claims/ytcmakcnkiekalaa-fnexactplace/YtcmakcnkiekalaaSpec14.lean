import Derived.Test.YtcmakcnkiekalaaG13
import Derived.Test.YtcmakcnkiekalaaG0
import Derived.Test.YtcmakcnkiekalaaG15
namespace Go.Proofs.Ytcmakcnkiekalaa
open Go.RowKit

def ptF (p : Pt) : List Value := [.int .i64 p.piece, .int .i64 p.fr, .int .i64 p.to]
theorem ptF_len (p : Pt) : (ptF p).length = 3 := rfl







def bodyParts (n : Nt) (t : Tr) : List Pt := bodyFrom n t.long (behind n t.front) ⟨t.front.piece, t.front.way⟩ t.back



end Go.Proofs.Ytcmakcnkiekalaa

