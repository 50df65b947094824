import Derived.Test.YthieaobjdpfcoaaGreatDoorVNt3
namespace Go.Proofs.YthieaobjdpfcoaaGreatDoor
section
namespace Nx
structure Fd where
 kn:Int->Option Int
 nums:List Int
 code:List Sp
theorem Yj {P:Int}{N:Nat}{s:Sp}(h:eA P N s=0):1≤s.code/\s.code≤17/\s.code≠3:=by
 unfold eA at h
 split at h
 ·omega
 ·omega
theorem sD {P:Int}{N:Nat}{s:Sp}(h:eA P N s=0):cR P s.dst=true/\(asks s).all (cR P)=true:=by
 unfold eA at h
 split at h
 ·omega
 ·split at h
  ·omega
  ·rename_i h2;exact Decidable.of_not_not h2
theorem My (nums:List Int) {cs ds:List Sp}(V:List Int) (k:Nat) (h:∀i,i<k->cs.getD i eD=ds.getD i eD):iZ nums cs V k=iZ nums ds V k:=by
 induction k with
 | zero=>rfl
 | succ k ih=>rw[iZ,iZ,ih (fun i c=>h i (by omega)),h k (by omega)]
end Nx
end
end Go.Proofs.YthieaobjdpfcoaaGreatDoor
