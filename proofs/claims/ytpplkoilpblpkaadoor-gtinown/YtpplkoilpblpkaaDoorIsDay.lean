/-
  Days: the document's isDay; gtin.Day; larderref02.Day; GtinDays' own walk.
-/
import Derived.Test.YtpplkoilpblpkaaDoorDay
namespace Go.Proofs.YtpplkoilpblpkaaDoor
open Go.RowKit
set_option maxRecDepth 100000
attribute [local go_sem ↓] Go.wp_at_zero Go.wp_at_succ

end Go.Proofs.YtpplkoilpblpkaaDoor
