
/-
  barrowref02.Reader: Text.
-/
import Derived.Test.YtpkblfhkblllhaaGreatDoorRP38
namespace Go.Proofs.YtpkblfhkblllhaaGreatDoor
open Go.RowKit
set_option maxRecDepth 100000

end Go.Proofs.YtpkblfhkblllhaaGreatDoor
