import Derived.Test.YtpogmfliojcnjaaGreatDoorSRf
import Derived.Test.YtpogmfliojcnjaaGreatDoorSPone
namespace Go.Proofs.YtpogmfliojcnjaaGreatDoor
section
namespace Px
open Go.Deep (BT)
section
variable {L:List Lx.Tok}
section
variable {ρ:Type}{reg:Nat->Nat->Except F (List ρ×Nat×Nat)}{R:S->List ρ×S}
theorem part_shut (s:StF ρ) (c i:Nat) (h:tx L i=kShut):part L ρ reg s c i=.ok none:=by
 have hl:leadOf (tx L i)=none:=by rw[h];decide
 rw[part,hl]
 simp only
 rw[if_neg (by rw[h];decide),if_neg (by rw[h];decide),if_neg (by rw[h];decide),if_neg (by rw[h];decide),if_neg (by rw[h];decide)]
end
end
end Px
end
section
open Go.RowKit Px
end
end Go.Proofs.YtpogmfliojcnjaaGreatDoor
