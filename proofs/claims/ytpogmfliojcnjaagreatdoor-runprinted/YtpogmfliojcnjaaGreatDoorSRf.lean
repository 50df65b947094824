import Derived.Test.YtpogmfliojcnjaaGreatDoorSCr
namespace Go.Proofs.YtpogmfliojcnjaaGreatDoor
namespace Px
open Go.Deep (BT)
end Px
end Go.Proofs.YtpogmfliojcnjaaGreatDoor
