import Derived.Test.YthieaobjdpfcoaaGreatDoorVNt3
import Derived.Test.YthieaobjdpfcoaaGreatDoorVNo
set_option maxHeartbeats 1000000
namespace Go.Proofs.YthieaobjdpfcoaaGreatDoor
section
open Go.RowKit
namespace Nx
def oR (n:Nt) (V:List Int) (rows:List (List Int)):Nat->List Int
 | 0=>V
 | k+1=>after n (oR n V rows k) (rows.getD k [])
def told (n:Nt) (V:List Int) (rows:List (List Int)):Nat->List Int
 | 0=>[]
 | k+1=>(told n V rows k++[((told n V rows k).length:Int)])++tells n (oR n V rows k) (rows.getD k [])
theorem Jt (n:Nt) (V:List Int) (rows:List (List Int)) (k:Nat):(oR n V rows k).length=V.length:=by
 induction k with
 | zero=>rfl
 | succ k ih=>rw[oR,vP,ih]
theorem Z5 (n:Nt) (V:List Int) (rows:List (List Int)) (k:Nat):(told n V rows k).length=k*(n.outs.length+1):=by
 induction k with
 | zero=>simp[told]
 | succ k ih=>rw[told,aO6,aO6,ih,uM,Nat.add_mul];simp;omega
def I6 (B:Nat) (w:World) (v:Value) (f:Nat×Int):Prop:=
 (f.1=0/\f.2=-1/\v=.nilIface)\/(f.1≠0/\f.2=-1/\v=.iface 86 (.int .i64 f.1)) \/
  (f.1≠0/\∃g q:Nat,f.2=q/\B≤g/\v=.iface 89 (.pointer (some ⟨g,0,none⟩))/\w.heap[g]?=some (.cells #[.int .i64 f.1,.int .i64 q] 91 (0,0)))
theorem Ch (B:Nat) (n:Nt) (w:World) (j r u l k s:Value) (h:eJ B w n j r u l k s) (hB:B≤w.heap.size) (I:jB n) (D:dD n≠0) :
    Calls Tryz.prog 21 #[.agg #[.int .i64 n.places,j,r,u,l,k,s]] w fun e w'=>e=.returned (.iface 86 (.int .i64 (dD n:Nat)))/\Below w.heap.size w w':=by
 have c:=qJ B n w.heap.size (w.alloc (.cells #[.int .i64 n.places,j,r,u,l,k,s] 26)) j r u l k s (h.below ((aE w _).mono hB) (aN4 _)) I (by simp)
 obtain ⟨e,J⟩:∃e,e=dD n:=⟨_,rfl⟩
 rw[<-J] at c D ⊢
 have O:((e:Int) != 0)=true:=by simp;omega
 clear J D h hB I
 go_enter Tryz.func21,Tryz.ntmps21
 go_wp2_with (go_at_call 40;refine c.mono ?_;rintro e w1 ⟨rfl,y⟩)
 go_ret
 exact ⟨rfl,iF (aE w _) y⟩
theorem Ci (B:Nat) (n:Nt) (w:World) (vF vI vO vK vN vC:Value) (h:eJ B w n vF vI vO vK vN vC) (hB:B≤w.heap.size) (I:jB n) (hw:dD n=0) :
    Calls Tryz.prog 21 #[.agg #[.int .i64 n.places,vF,vI,vO,vK,vN,vC]] w fun e w'=>∃v,e=.returned v/\I6 w.heap.size w' v (lQ n.places n.nums.length n.code 0)/\Below w.heap.size w w':=by
 have U:=qJ B n w.heap.size (w.alloc (.cells #[.int .i64 n.places,vF,vI,vO,vK,vN,vC] 26)) vF vI vO vK vN vC (h.below ((aE w _).mono hB) (aN4 _)) I (by simp)
 rw[hw] at U
 have ak:=I.c;have aj:=I.m
 obtain ⟨D,bC,ab,l,rfl,ae,aa⟩:=h.c
 obtain ⟨X,bN,ah,u,rfl,-,-⟩:=h.m
 have O:Hid (_/\_):=⟨ae,aa⟩
 have HX:Hid (∀w1,Below (w.alloc (.cells #[.int .i64 n.places,vF,vI,vO,vK,.slice X n.nums.length u,.slice D n.code.length l] 26)).heap.size (w.alloc (.cells #[.int .i64 n.places,vF,vI,vO,vK,.slice X n.nums.length u,.slice D n.code.length l] 26)) w1->w1.cell? ⟨w.heap.size,0,none⟩=some (.int .i64 n.places)/\w1.cell? ⟨w.heap.size,5,none⟩=some (.slice X n.nums.length u)/\w1.cell? ⟨w.heap.size,6,none⟩=some (.slice D n.code.length l)/\Below w.heap.size w w1/\w.heap.size<w1.heap.size):=
  fun w1 hb=>⟨bG hb (by simp),bG hb (by simp),bG hb (by simp),iF (aE w _) hb,by have:=hb.size;simp at this;omega⟩
 clear h I hw ae aa
 go_enter Tryz.func21,Tryz.ntmps21
 go_wp2_with (go_at_call 40;refine U.mono ?_;rintro e w1 ⟨rfl,ad⟩;obtain ⟨d0,d5,d6,r,al⟩:=HX.out w1 ad;have af:Hid _:=r;clear U ad r)
 go_loopw [19] (fun i wr=>∃k:Nat,k≤n.code.length/\i=.int .i64 k/\(∀j,j<k->eA n.places n.nums.length (n.code.getD j eD)=0)/\Below w1.heap.size w1 wr) (fun i _=>n.code.length-(intOf i).toNat)
 case atStart=>exact ⟨0,aP4 _,rfl,fun j hj=>by omega,Below.refl _ _⟩
 case round=>
  obtain ⟨k,hk,rfl,J,y⟩:=hrel
  have HA:Hid _:=J
  have ag:Hid _:=y
  have f0:=bG y d0
  have f5:=bG y d5
  have r:Hid _:=iF af.out y
  clear J y
  by_cases hlt:k<n.code.length
  ·have ai:=Sf D bC ab n.code.length l k hlt (fun h=>(O.out.1 h).1)
   obtain ⟨s,I⟩:∃s,s=n.code.getD k eD:=⟨_,rfl⟩
   have ac:wr.heap[bC]?=w.heap[bC]?:=r.out.block bC (by have:=(O.out.1 (by omega)).2;omega)
   obtain ⟨x0,x1,x2,x3,x4⟩:=O.out.2 k hlt
   rw[<-aY ac,<-I] at x0 x1 x2 x3 x4
   have HS:Hid _:=I
   have Q:=Pd s n.places n.nums.length w.heap.size (wr.alloc (.cells #[.int .i64 s.code,.int .i64 s.dst,.int .i64 s.a,.int .i64 s.b,.int .i64 s.c] 38)) (bG (aE wr _) f0)
   have g5:=bG (aE wr (.cells #[.int .i64 s.code,.int .i64 s.dst,.int .i64 s.a,.int .i64 s.b,.int .i64 s.c] 38)) f5
   obtain ⟨e,he⟩:∃e,e=eA n.places n.nums.length s:=⟨_,rfl⟩
   rw[<-he] at Q
   have HE:Hid _:=he
   clear I ac he d0 d5 d6
   by_cases e0:e=0
   ·subst e0
    go_wp2_with (go_at_call 41;refine Q.mono ?_;rintro e w2 ⟨rfl,Y⟩)
    go_roundw
    case rel=>exact ⟨k+1,by omega,by go_num,fun j hj=>by
     by_cases ej:j=k
     ·rw[ej,<-HS.out];exact HE.out.symm
     ·exact HA.out j (by omega),iF ag.out (iF (aE wr _) Y)⟩
    case measure=>simp[intOf];omega
   ·have t0:((e:Int) != 0)=true:=by simp;omega
    have E0:Hid _:=e0
    clear e0
    go_wp2_with (go_at_call 41;refine Q.mono ?_;rintro e w2 ⟨rfl,Y⟩)
    go_ret
    have Z:Below w.heap.size w w2:=iF r.out (iF (aE wr _) Y)
    refine ⟨_,rfl,.inr (.inr ⟨?_,w2.heap.size,k,?_,Z.size,rfl,?_⟩),Z.alloc Z.size _⟩
    ·rw[uR _ _ _ k HA.out hlt (by rw[<-HS.out,<-HE.out];exact E0.out)]
     rw[<-HS.out,<-HE.out];exact E0.out
    ·rw[uR _ _ _ k HA.out hlt (by rw[<-HS.out,<-HE.out];exact E0.out)]
    ·rw[uR _ _ _ k HA.out hlt (by rw[<-HS.out,<-HE.out];exact E0.out),<-HS.out,<-HE.out]
     exact heap_alloc_new _ _
  ·go_wp2
   go_ret
   refine ⟨_,rfl,.inl ?_,r.out⟩
   rw[vY _ _ _ (fun j hj=>HA.out j (by omega))]
   exact ⟨rfl,rfl,rfl⟩
theorem iU (B:Nat) (n:Nt) (w:World) (j c l s r k:Value) (h:eJ B w n j c l s r k) (hB:B≤w.heap.size) (u:jB n) :
    Calls Tryz.prog 21 #[.agg #[.int .i64 n.places,j,c,l,s,r,k]] w fun e w'=>∃v,e=.returned v/\I6 w.heap.size w' v (fY n)/\Below w.heap.size w w':=by
 unfold fY
 by_cases hw:dD n=0
 ·rw[if_pos hw];exact Ci B n w j c l s r k h hB u hw
 ·rw[if_neg hw]
  exact (Ch B n w j c l s r k h hB u hw).mono fun e w' ⟨he,hb⟩=>⟨_,he,.inr (.inl ⟨hw,rfl,rfl⟩),hb⟩
theorem I6.nil_iff {B:Nat}{w:World}{v:Value}{f:Nat×Int}(h:I6 B w v f):(f.1=0/\v=.nilIface)\/(f.1≠0/\∃T u,v=.iface T u):=by
 rcases h with ⟨c,_,j⟩|⟨c,_,j⟩|⟨c,g,q,_,_,j,_⟩
 ·exact .inl ⟨c,j⟩
 ·exact .inr ⟨c,_,_,j⟩
 ·exact .inr ⟨c,_,_,j⟩
theorem aO8 (B:Nat) (n:Nt) (w:World) (j r y l k s:Value) (h:eJ B w n j r y l k s) (hB:B≤w.heap.size) (J:jB n) (I:(fY n).1≠0) :
    Calls Tryz.prog 48 #[.agg #[.int .i64 n.places,j,r,y,l,k,s]] w fun e w'=>∃v,e=.returned (.tuple #[.pointer none,v])/\I6 w.heap.size w' v (fY n)/\Below w.heap.size w w':=by
 have D:Calls Tryz.prog 21 #[.agg #[.int .i64 n.places,j,r,y,l,k,s]] (w.alloc (.cells #[.int .i64 n.places,j,r,y,l,k,s] 26)) fun e w'=>∃T u,e=.returned (.iface T u)/\Hid (I6 w.heap.size w' (.iface T u) (fY n)/\Below w.heap.size w w'):=by
  refine (iU B n _ j r y l k s (h.below ((aE w _).mono hB) (aN4 _)) (aO4 hB (aE w _).size) J).mono fun e w' ⟨v,he,c,hb⟩=>?_
  rcases c.nil_iff with ⟨Q,_⟩|⟨_,T,u,rfl⟩
  ·exact absurd Q I
  ·refine ⟨T,u,he,?_,iF (aE w _) hb⟩
   rcases c with c|c|⟨Z,g,q,O,U,Y,h5⟩
   ·exact .inl c
   ·exact .inr (.inl c)
   ·exact .inr (.inr ⟨Z,g,q,O,aO4 (aE w _).size U,Y,h5⟩)
 clear h hB J I
 go_enter Tryz.func48,Tryz.ntmps48
 go_wp2_with (go_at_call 21;refine D.mono ?_;rintro e w1 ⟨T,u,rfl,X⟩)
 go_ret2
 exact ⟨_,rfl,X.out.1,X.out.2⟩
theorem Qz (B:Nat) (n:Nt) (w:World) (l u D I s y:Value) (h:eJ B w n l u D I s y) (hB:B≤w.heap.size) (hs:jB n) (ae:n.first.length≤100000) (hw:(fY n).1=0) :
    Calls Tryz.prog 48 #[.agg #[.int .i64 n.places,l,u,D,I,s,y]] w fun e w'=>∃bm g,e=.returned (.tuple #[.pointer (some ⟨bm,0,none⟩),.nilIface])/\Oe B w' bm g n n.first/\w.heap.size≤bm/\w.heap.size≤g/\bm<w'.heap.size/\Below w.heap.size w w':=by
 have HV:Hid (eJ B w n l u D I s y):=h
 have ac:Calls Tryz.prog 21 #[.agg #[.int .i64 n.places,l,u,D,I,s,y]] (w.alloc (.cells #[.int .i64 n.places,l,u,D,I,s,y] 26)) fun e w'=>e=.returned .nilIface/\
     Hid (Below (w.alloc (.cells #[.int .i64 n.places,l,u,D,I,s,y] 26)).heap.size (w.alloc (.cells #[.int .i64 n.places,l,u,D,I,s,y] 26)) w'):=by
  refine (iU B n _ l u D I s y (h.below ((aE w _).mono hB) (aN4 _)) (aO4 hB (aE w _).size) hs).mono fun e w' ⟨v,he,hi,hb⟩=>?_
  rcases hi.nil_iff with ⟨_,rfl⟩|⟨h1,_⟩
  ·exact ⟨he,hb⟩
  ·exact absurd hw h1
 have HX:Hid (∀w1,Below (w.alloc (.cells #[.int .i64 n.places,l,u,D,I,s,y] 26)).heap.size (w.alloc (.cells #[.int .i64 n.places,l,u,D,I,s,y] 26)) w1->w1.cell? ⟨w.heap.size,0,none⟩=some (.int .i64 n.places)/\w1.cell? ⟨w.heap.size,1,none⟩=some l/\w1.cell? ⟨w.heap.size,2,none⟩=some u/\w1.cell? ⟨w.heap.size,3,none⟩=some D/\w1.cell? ⟨w.heap.size,4,none⟩=some I/\w1.cell? ⟨w.heap.size,5,none⟩=some s/\w1.cell? ⟨w.heap.size,6,none⟩=some y/\
     (Calls Tryz.prog 24 #[l] w1.drew fun e w'=>∃ad cap,e=.returned (.slice ad n.first.length cap)/\Hid (∃g,Own w' (.slice ad n.first.length cap) n.first g/\w.heap.size≤g/\g<w'.heap.size/\Below w1.heap.size w1 w'))/\Hid (Below w.heap.size w w1)):=by
  intro w1 hb
  have j:Below w.heap.size w w1:=iF (aE w _) hb
  have ai:w.heap.size<w1.heap.size:=by have:=hb.size;simp at this;omega
  refine ⟨bG hb (by simp),bG hb (by simp),bG hb (by simp),bG hb (by simp),bG hb (by simp),bG hb (by simp),bG hb (by simp),?_,j⟩
  refine (Iv (A:=(· < B)) l n.first w1.drew ((HV.out.f.carry fun b U _=>⟨U,j.block b (aO2 U hB)⟩).carry fun b U _=>⟨U,rfl⟩) ae).mono fun e w' ⟨v',he,ho,hb'⟩=>?_
  obtain ⟨g,hg,ah,O,_⟩:=rV ho
  obtain ⟨ad,cap,rfl,-⟩:=id hg
  refine ⟨ad,cap,he,?_⟩
  have r:Below w1.heap.size w1 w':=(⟨rfl,rfl,rfl,aN4 _,fun _ _=>rfl⟩:Below w1.heap.size w1 w1.drew).trans hb'
  by_cases hp:0<n.first.length
  ·exact ⟨g,hg,aO4 j.size ah,O hp,r⟩
  ·exact ⟨w.heap.size,⟨ad,cap,rfl,fun h=>absurd h hp⟩,aN4 _,aO2 ai r.size,r⟩
 clear h hs hw
 go_enter Tryz.func48,Tryz.ntmps48
 go_wp2_with (go_at_call 21;refine ac.mono ?_;rintro e w1 ⟨rfl,X⟩;obtain ⟨d0,d1,d2,d3,d4,d5,d6,ag,af⟩:=HX.out w1 X.out;clear ac)
 go_region_with (go_at_call 24;refine ag.mono ?_;rintro e w2 ⟨Q,J,rfl,Y⟩;have Z:Hid (∀o,w2.cell? ⟨w.heap.size,o,none⟩=w1.cell? ⟨w.heap.size,o,none⟩):=(by (intro o;obtain ⟨g,_,_,_,r⟩:=Y.out;exact aY (r.block w.heap.size (cC d0)) o));have f0:=(Z.out 0).trans d0;have f1:=(Z.out 1).trans d1;have f2:=(Z.out 2).trans d2;have f3:=(Z.out 3).trans d3;have f4:=(Z.out 4).trans d4;have f5:=(Z.out 5).trans d5;have f6:=(Z.out 6).trans d6)
 all_goals
  go_wp2
  go_ret2
  obtain ⟨g,hg,ab,O,r⟩:=Y.out
  have j:Below w.heap.size w w2:=iF af.out r
  have aa:=j.alloc j.size (.cells (pV n.places l u D I s y (.slice Q n.first.length J)) 145)
  have hk:bB (· < B) (· < B) w (w2.alloc (.cells (pV n.places l u D I s y (.slice Q n.first.length J)) 145)):=fun b U _=>⟨U,aa.block b (aO2 U hB)⟩
  refine ⟨w2.heap.size,g,rfl,⟨⟨l,u,D,I,s,y,.slice Q n.first.length J,heap_alloc_new _ _,HV.out.i.carry hk,HV.out.o.carry hk,HV.out.k.carry hk,HV.out.m.carry hk,HV.out.c.carry hk,hg.keep (Below.heap_alloc _ _ _ O)⟩,aO4 hB j.size,aO4 hB ab,Nat.ne_of_lt O,?_⟩,j.size,ab,?_,aa⟩
  ·simp;omega
  ·simp
end Nx
end
end Go.Proofs.YthieaobjdpfcoaaGreatDoor
