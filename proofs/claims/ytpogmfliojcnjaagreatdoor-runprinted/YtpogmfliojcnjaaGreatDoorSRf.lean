import Derived.Test.YtpogmfliojcnjaaGreatDoorSCr
namespace Go.Proofs.YtpogmfliojcnjaaGreatDoor
namespace Px
open Go.Deep (BT)
structure S where
 i:Nat
 st:Nat
 bad:Option F
end Px
end Go.Proofs.YtpogmfliojcnjaaGreatDoor
