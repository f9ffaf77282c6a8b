/- Kids, both ways. -/
import Derived.Test.YtjcfndiceinkjaaOB15b
import Derived.Test.YtjcfndiceinkjaaOB15c
import Derived.Test.YtjcfndiceinkjaaOB15d
import Derived.Test.YtjcfndiceinkjaaOB15f
import Derived.Test.YtjcfndiceinkjaaOB15e
namespace Go.Proofs.Ytjcfndiceinkjaa
set_option linter.unusedVariables false
set_option linter.unusedSimpArgs false
open Go.RowKit

theorem kids_any (w : World) (o : ObjR) (v : ObjV) (hr : ObjRd w o v) (hs : ObjSz o) : Calls Try.prog 7 #[.agg (objL o v).toArray] w (KidsC w o) := by
  by_cases h2 : o.kind = 2
  · exact kids_2 w o v hr hs h2
  by_cases h3 : o.kind = 3
  · exact kids_3 w o v hr hs h3
  by_cases h4 : o.kind = 4
  · exact kids_4 w o v hr hs h4
  · exact kids_n w o v hr hs h2 h3 h4
theorem rkids_any (w : World) (o : ObjR) (v : ObjV) (hr : ObjRd w o v) (hs : ObjSz o) : Calls Try.prog 6 #[.agg (objL o v).toArray] w (KidsC w o) := by
  by_cases h2 : o.kind = 2
  · exact rkids_2 w o v hr hs h2
  by_cases h3 : o.kind = 3
  · exact rkids_3 w o v hr hs h3
  by_cases h4 : o.kind = 4
  · exact rkids_4 w o v hr hs h4
  · exact rkids_n w o v hr hs h2 h3 h4
end Go.Proofs.Ytjcfndiceinkjaa
