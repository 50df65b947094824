import Derived.Test.YthieaobjdpfcoaaGreatDoorVNtA
set_option maxRecDepth 100000
set_option maxHeartbeats 1000000
namespace Go.Proofs.YthieaobjdpfcoaaGreatDoor
open Go.Proofs.Tryz (prog)
section
open Go Go.RowKit Go.ChangeShapes Go.WideShapes
namespace Nx
def Vg (z:Int):Prop:=-9223372036854775808≤z/\z≤9223372036854775807
theorem Gf {z:Int}(h:(Lit.int .i64 z).wf=true):Vg z:=by
 rw[show (Lit.int .i64 z).wf=(decide (-9223372036854775808≤z)&&decide (z≤9223372036854775807)) from rfl] at h
 simpa [Vg] using h
theorem qC (b off k:Nat):(⟨b,off,none⟩:Addr).add k=⟨b,off+k,none⟩:=by unfold Addr.add;split<;>simp_all
section
variable {H:Type}{enc:TypeId×Value->H}{W:World}{sp:Nat->Bool}{held:Bool}
theorem iT {t e:TypeId}(Q:prog.underlying t=some (.slice e)) (U:prog.underlying e=some (.int .i64)) (X:prog.cellsOf e=1) {fuel:Nat}{v:Value}{x:DataW H×List MemPlace}
    (h:DataW.trod enc prog W 0 sp held fuel t [v]=some x):∃zs,bH (· < W.heap.size) W v zs/\(∀z∈zs,Vg z):=by
 rcases open_ints Q U X h with ⟨u,_⟩|⟨a,len,cap,zs,u,_,Z,hm,I,_,c,J⟩
 ·obtain rfl:v=.slice none 0 0:=by simpa using u
  exact ⟨[],⟨none,0,0,0,rfl,fun h=>by simp at h,fun k O=>by simp at O⟩,fun z I=>by cases I⟩
 ·obtain rfl:v=.slice (some a) len cap:=by simpa using u
  have Y:len≤zs.length:=by rw[I];split<;>omega
  have hlen:(zs.take len).length=len:=by simp;omega
  refine ⟨zs.take len,?_,fun z I=>Gf (J z (List.mem_of_mem_take I))⟩
  by_cases h0:len=0
  ·subst h0
   exact ⟨some a,0,0,cap,by rw[hlen],fun h=>by omega,fun k O=>by omega⟩
  ·obtain ⟨b,l,y⟩:=a
   have s:=c 0 (by omega)
   have r:y=none:=by simpa [Addr.add] using World.cell?_spot s
   subst r
   have D:∀j,(⟨b,l,none⟩:Addr).add j=⟨b,l+j,none⟩:=fun j=>by simp[Addr.add]
   refine ⟨some ⟨b,l,none⟩,b,l,cap,by rw[hlen],fun _=>⟨rfl,?_⟩,fun k O=>?_⟩
   ·rw[D] at s;exact cC s
   ·have:=c k (by omega)
    rw[D] at this
    rw[this]
    simp[List.getD_eq_getElem?_getD,show k<len by omega]
theorem J3 {fuel:Nat}{cs:List Value}{x:DataW H×List MemPlace}(h:DataW.trod enc prog W 0 sp held fuel 38 cs=some x) :
    ∃s:Sp,cs=[.int .i64 s.code,.int .i64 s.dst,.int .i64 s.a,.int .i64 s.b,.int .i64 s.c]:=by
 obtain ⟨e,n,_,_,Z,hlen,j⟩:=DataW.trod_struct Tryz.underlying38 h
 have X:cs.length=5:=Z.trans (by kernel_rfl)
 match cs,X with
 | [c0,c1,c2,c3,c4],_=>
  have hx:∀i,i<5->∃y,e[i]?=some y:=fun i hi=>⟨_,aN4 (by rw[hlen];exact hi)⟩
  have Q:prog.cellsOf 3=1:=by kernel_rfl
  obtain ⟨y0,U⟩:=hx 0 (by omega)
  obtain ⟨y1,e1⟩:=hx 1 (by omega)
  obtain ⟨y2,Y⟩:=hx 2 (by omega)
  obtain ⟨y3,e3⟩:=hx 3 (by omega)
  obtain ⟨y4,e4⟩:=hx 4 (by omega)
  have k:=j 0 _ rfl
  have f1:=j 1 _ rfl
  have f2:=j 2 _ rfl
  have J:=j 3 _ rfl
  have I:=j 4 _ rfl
  rw[U] at k
  rw[e1] at f1
  rw[Y] at f2
  rw[e3] at J
  rw[e4] at I
  obtain ⟨z0,r,_⟩:=DataW.trod_int Tryz.underlying3 k
  obtain ⟨z1,D,_⟩:=DataW.trod_int Tryz.underlying3 f1
  obtain ⟨z2,l,_⟩:=DataW.trod_int Tryz.underlying3 f2
  obtain ⟨z3,O,_⟩:=DataW.trod_int Tryz.underlying3 J
  obtain ⟨z4,u,_⟩:=DataW.trod_int Tryz.underlying3 I
  simp[Q] at r D l O u
  exact ⟨⟨z0,z1,z2,z3,z4⟩,by rw[r,D,l,O,u]⟩
theorem Bv {α:Type}(d:α) (n:Nat) (P:Nat->α->Prop) (h:∀i,i<n->∃x,P i x):∃l:List α,l.length=n/\∀i,i<n->P i (l.getD i d):=by
 induction n with
 | zero=>exact ⟨[],rfl,fun i j=>by omega⟩
 | succ n ih=>
  obtain ⟨l,c,k⟩:=ih fun i j=>h i (by omega)
  obtain ⟨x,hx⟩:=h n (by omega)
  refine ⟨l++[x],by simp[c],fun i j=>?_⟩
  by_cases e:i=n
  ·subst e
   rw[iO,aW8 (by omega)]
   simpa [c] using hx
  ·rw[iO,aR6 (by omega),<-iO]
   exact k i (by omega)
theorem zW {fuel:Nat}{v:Value}{x:DataW H×List MemPlace}(h:DataW.trod enc prog W 0 sp held fuel 24 [v]=some x):∃l,jA (· < W.heap.size) W v l:=by
 rcases DataW.trod_slice Tryz.underlying24 h with ⟨r,_⟩|⟨a,len,cap,elems,rest,n,_,r,_,_,_,_,hlen,U,_⟩
 ·obtain rfl:v=.slice none 0 0:=by simpa using r
  exact ⟨[],none,0,0,0,rfl,fun h=>by simp at h,fun k Q=>by simp at Q⟩
 ·obtain rfl:v=.slice (some a) len cap:=by simpa using r
  have e:prog.cellsOf 38=5:=by kernel_rfl
  have each:∀i,i<len->∃s:Sp,∀j,j<5->W.cell? ((a.add (i*5)).add j)=[Value.int .i64 s.code,.int .i64 s.dst,.int .i64 s.a,.int .i64 s.b,.int .i64 s.c][j]?:=fun i hi=>by
   have Z:=U i hi
   rw[e,aN4 (by omega)] at Z
   obtain ⟨cs,r,J⟩:=Option.bind_eq_some_iff.1 Z
   obtain ⟨s,rfl⟩:=J3 J
   exact ⟨s,(World.cells?_some r).2.2⟩
  obtain ⟨l,Y,X⟩:=Bv eD len _ each
  by_cases h0:len=0
  ·subst h0
   exact ⟨l,some a,0,0,cap,by rw[Y],fun h=>by omega,fun k Q=>by omega⟩
  ·obtain ⟨b,u,I⟩:=a
   have y:=X 0 (by omega) 0 (by omega)
   have D:I=none:=by simpa [Addr.add] using World.cell?_spot y
   subst D
   have O:∀i j,((⟨b,u,none⟩:Addr).add (i*5)).add j=⟨b,u+i*5+j,none⟩:=fun i j=>by rw[qC,qC]
   refine ⟨l,some ⟨b,u,none⟩,b,u,cap,by rw[Y],fun _=>⟨rfl,?_⟩,fun k Q=>?_⟩
   ·rw[O] at y;exact cC y
   ·have q:=fun j hj=>X k (by omega) j hj
    simp only[O] at q
    exact ⟨q 0 (by omega),q 1 (by omega),q 2 (by omega),q 3 (by omega),q 4 (by omega)⟩
theorem Ao {v:Value}{d:DataW H}{p:List MemPlace}{r:Reach}{b0:Nat}(hv:Value.okWide prog W r b0 26 v) (h:DataW.Trod enc prog W 0 sp held 26 v d p) :
    ∃(n:Nt) (J U O Y Q X:Value),v=.agg #[.int .i64 n.places,J,U,O,Y,Q,X]/\eJ W.heap.size W n J U O Y Q X/\(∀z∈n.first,Vg z)/\(∀z∈n.nums,Vg z):=by
 obtain ⟨cs,rfl,hsz⟩:=okWide_struct Tryz.underlying26 hv
 have h7:cs.size=7:=hsz.trans (by kernel_rfl)
 obtain ⟨fuel,c⟩:=h
 obtain ⟨xs,n,_,_,hl,hlen,c⟩:=DataW.trod_struct Tryz.underlying26 c
 obtain ⟨cs⟩:=cs
 have l:=h7
 match cs,l with
 | [c0,c1,c2,c3,c4,c5,c6],_=>
  have hx:∀i,i<7->∃y,xs[i]?=some y:=fun i hi=>⟨_,aN4 (by rw[hlen];exact hi)⟩
  have j:prog.cellsOf 3=1:=by kernel_rfl
  have e:prog.cellsOf 22=1:=by kernel_rfl
  have k2:prog.cellsOf 23=1:=by kernel_rfl
  have k3:prog.cellsOf 24=1:=by kernel_rfl
  have Z:prog.cellsOf 2=1:=by kernel_rfl
  obtain ⟨y0,e0⟩:=hx 0 (by omega)
  obtain ⟨y1,e1⟩:=hx 1 (by omega)
  obtain ⟨y2,e2⟩:=hx 2 (by omega)
  obtain ⟨y3,e3⟩:=hx 3 (by omega)
  obtain ⟨y4,e4⟩:=hx 4 (by omega)
  obtain ⟨y5,e5⟩:=hx 5 (by omega)
  obtain ⟨y6,e6⟩:=hx 6 (by omega)
  have k:=c 0 _ rfl
  have f1:=c 1 _ rfl
  have f2:=c 2 _ rfl
  have I:=c 3 _ rfl
  have D:=c 4 _ rfl
  have s:=c 5 _ rfl
  have u:=c 6 _ rfl
  rw[e0] at k
  rw[e1] at f1
  rw[e2] at f2
  rw[e3] at I
  rw[e4] at D
  rw[e5] at s
  rw[e6] at u
  simp[Value.cells,j,e,k2,k3] at k f1 f2 I D s u
  obtain ⟨P,g0,_⟩:=DataW.trod_int Tryz.underlying3 k
  obtain rfl:c0=.int .i64 P:=by simpa using g0
  obtain ⟨l1,i1,w1⟩:=iT Tryz.underlying22 Tryz.underlying2 Z f1
  obtain ⟨l2,i2,_⟩:=iT Tryz.underlying23 Tryz.underlying3 j f2
  obtain ⟨l3,i3,_⟩:=iT Tryz.underlying23 Tryz.underlying3 j I
  obtain ⟨l4,i4,_⟩:=iT Tryz.underlying23 Tryz.underlying3 j D
  obtain ⟨l5,i5,w5⟩:=iT Tryz.underlying22 Tryz.underlying2 Z s
  obtain ⟨l6,i6⟩:=zW u
  exact ⟨⟨P,l1,l2,l3,l4,l5,l6⟩,c1,c2,c3,c4,c5,c6,rfl,⟨i1,i2,i3,i4,i5,i6⟩,w1,w5⟩
end
end Nx
end
section
open Go.RowKit
namespace Nx
def oR (n:Nt) (V:List Int) (rows:List (List Int)):Nat->List Int
 | 0=>V
 | k+1=>after n (oR n V rows k) (rows.getD k [])
def told (n:Nt) (V:List Int) (rows:List (List Int)):Nat->List Int
 | 0=>[]
 | k+1=>(told n V rows k++[((told n V rows k).length:Int)])++tells n (oR n V rows k) (rows.getD k [])
theorem Jt (n:Nt) (V:List Int) (rows:List (List Int)) (k:Nat):(oR n V rows k).length=V.length:=by
 induction k with
 | zero=>rfl
 | succ k ih=>rw[oR,vP,ih]
theorem Z5 (n:Nt) (V:List Int) (rows:List (List Int)) (k:Nat):(told n V rows k).length=k*(n.outs.length+1):=by
 induction k with
 | zero=>simp[told]
 | succ k ih=>rw[told,aO9,aO9,ih,uM,Nat.add_mul];simp;omega
def I6 (B:Nat) (w:World) (v:Value) (f:Nat×Int):Prop:=
 (f.1=0/\f.2=-1/\v=.nilIface)\/(f.1≠0/\f.2=-1/\v=.iface 86 (.int .i64 f.1)) \/
  (f.1≠0/\∃g q:Nat,f.2=q/\B≤g/\v=.iface 89 (.pointer (some ⟨g,0,none⟩))/\w.heap[g]?=some (.cells #[.int .i64 f.1,.int .i64 q] 91 (0,0)))
theorem Ch (B:Nat) (n:Nt) (w:World) (j r u l k s:Value) (h:eJ B w n j r u l k s) (hB:B≤w.heap.size) (I:jB n) (D:dD n≠0) :
 Calls prog 21 #[.agg #[.int .i64 n.places,j,r,u,l,k,s]] w fun e w'=>e=.returned (.iface 86 (.int .i64 (dD n:Nat)))/\Below w.heap.size w w':=by
 have c:=qJ B n w.heap.size (w.alloc (.cells #[.int .i64 n.places,j,r,u,l,k,s] 26)) j r u l k s (h.below ((aE w _).mono hB) (aO4 _)) I (by simp)
 obtain ⟨e,J⟩:=gQx (dD n)
 rw[<-J] at c D ⊢
 have O:((e:Int) != 0)=true:=by simp;omega
 clear J D h hB I
 go_enter Tryz.func21,Tryz.ntmps21
 go_wp2_with (go_at_call 40;refine c.mono ?_;rintro e w1 ⟨rfl,y⟩)
 go_ret
 exact ⟨rfl,iF (aE w _) y⟩
theorem Ci (B:Nat) (n:Nt) (w:World) (U X Y Z vN vC:Value) (h:eJ B w n U X Y Z vN vC) (hB:B≤w.heap.size) (u:jB n) (hw:dD n=0) :
 Calls prog 21 #[.agg #[.int .i64 n.places,U,X,Y,Z,vN,vC]] w fun e w'=>∃v,e=.returned v/\I6 w.heap.size w' v (lQ n.places n.nums.length n.code 0)/\Below w.heap.size w w':=by
 have J:=qJ B n w.heap.size (w.alloc (.cells #[.int .i64 n.places,U,X,Y,Z,vN,vC] 26)) U X Y Z vN vC (h.below ((aE w _).mono hB) (aO4 _)) u (by simp)
 rw[hw] at J
 have ak:=u.c;have aj:=u.m
 obtain ⟨d9,bC,ab,fd,rfl,ae,aa⟩:=h.c
 obtain ⟨cK,bN,ah,ex,rfl,-,-⟩:=h.m
 have D:Hid (_/\_):=⟨ae,aa⟩
 have HX:Hid (∀w1,Below (w.alloc (.cells #[.int .i64 n.places,U,X,Y,Z,.slice cK n.nums.length ex,.slice d9 n.code.length fd] 26)).heap.size (w.alloc (.cells #[.int .i64 n.places,U,X,Y,Z,.slice cK n.nums.length ex,.slice d9 n.code.length fd] 26)) w1->w1.cell? ⟨w.heap.size,0,none⟩=some (.int .i64 n.places)/\w1.cell? ⟨w.heap.size,5,none⟩=some (.slice cK n.nums.length ex)/\w1.cell? ⟨w.heap.size,6,none⟩=some (.slice d9 n.code.length fd)/\Below w.heap.size w w1/\w.heap.size<w1.heap.size):=
  fun w1 hb=>⟨bG hb (by simp),bG hb (by simp),bG hb (by simp),iF (aE w _) hb,by have:=hb.size;simp at this;omega⟩
 clear h u hw ae aa
 go_enter Tryz.func21,Tryz.ntmps21
 go_wp2_with (go_at_call 40;refine J.mono ?_;rintro e w1 ⟨rfl,ad⟩;obtain ⟨d0,d5,d6,l,al⟩:=HX.out w1 ad;have af:Hid _:=l;clear J ad l)
 go_loopw [19] (fun i wr=>∃k:Nat,k≤n.code.length/\i=.int .i64 k/\(∀j,j<k->eA n.places n.nums.length (n.code.getD j eD)=0)/\Below w1.heap.size w1 wr) (fun i _=>n.code.length-(intOf i).toNat)
 case atStart=>exact ⟨0,aP6 _,rfl,fun j hj=>by omega,Below.refl _ _⟩
 case round=>
  obtain ⟨k,hk,rfl,y,r⟩:=hrel
  have HA:Hid _:=y
  have ag:Hid _:=r
  have f0:=bG r d0
  have f5:=bG r d5
  have l:Hid _:=iF af.out r
  clear y r
  by_cases hlt:k<n.code.length
  ·have ai:=Sf d9 bC ab n.code.length fd k hlt (fun h=>(D.out.1 h).1)
   obtain ⟨s,u⟩:=gQx (n.code.getD k eD)
   have ac:wr.heap[bC]?=w.heap[bC]?:=l.out.block bC (by have:=(D.out.1 (by omega)).2;omega)
   obtain ⟨x0,x1,x2,x3,x4⟩:=D.out.2 k hlt
   rw[<-aY ac,<-u] at x0 x1 x2 x3 x4
   have HS:Hid _:=u
   have I:=Pd s n.places n.nums.length w.heap.size (wr.alloc (.cells #[.int .i64 s.code,.int .i64 s.dst,.int .i64 s.a,.int .i64 s.b,.int .i64 s.c] 38)) (bG (aE wr _) f0)
   have g5:=bG (aE wr (.cells #[.int .i64 s.code,.int .i64 s.dst,.int .i64 s.a,.int .i64 s.b,.int .i64 s.c] 38)) f5
   obtain ⟨e,he⟩:=gQx (eA n.places n.nums.length s)
   rw[<-he] at I
   have HE:Hid _:=he
   clear u ac he d0 d5 d6
   by_cases e0:e=0
   ·subst e0
    go_wp2_with (go_at_call 41;refine I.mono ?_;rintro e w2 ⟨rfl,O⟩)
    go_roundw
    case rel=>exact ⟨k+1,by omega,by go_num,fun j hj=>by
     by_cases ej:j=k
     ·rw[ej,<-HS.out];exact HE.out.symm
     ·exact HA.out j (by omega),iF ag.out (iF (aE wr _) O)⟩
    case measure=>simp[intOf];omega
   ·have t0:((e:Int) != 0)=true:=by simp;omega
    have E0:Hid _:=e0
    clear e0
    go_wp2_with (go_at_call 41;refine I.mono ?_;rintro e w2 ⟨rfl,O⟩)
    go_ret
    have Q:Below w.heap.size w w2:=iF l.out (iF (aE wr _) O)
    refine ⟨_,rfl,.inr (.inr ⟨?_,w2.heap.size,k,?_,Q.size,rfl,?_⟩),Q.alloc Q.size _⟩
    ·rw[uR _ _ _ k HA.out hlt (by rw[<-HS.out,<-HE.out];exact E0.out)]
     rw[<-HS.out,<-HE.out];exact E0.out
    ·rw[uR _ _ _ k HA.out hlt (by rw[<-HS.out,<-HE.out];exact E0.out)]
    ·rw[uR _ _ _ k HA.out hlt (by rw[<-HS.out,<-HE.out];exact E0.out),<-HS.out,<-HE.out]
     exact heap_alloc_new _ _
  ·go_wp2
   go_ret
   refine ⟨_,rfl,.inl ?_,l.out⟩
   rw[vY _ _ _ (fun j hj=>HA.out j (by omega))]
   exact ⟨rfl,rfl,rfl⟩
theorem iU (B:Nat) (n:Nt) (w:World) (j c l s r k:Value) (h:eJ B w n j c l s r k) (hB:B≤w.heap.size) (u:jB n) :
 Calls prog 21 #[.agg #[.int .i64 n.places,j,c,l,s,r,k]] w fun e w'=>∃v,e=.returned v/\I6 w.heap.size w' v (fY n)/\Below w.heap.size w w':=by
 unfold fY
 by_cases hw:dD n=0
 ·rw[if_pos hw];exact Ci B n w j c l s r k h hB u hw
 ·rw[if_neg hw]
  exact (Ch B n w j c l s r k h hB u hw).mono fun e w' ⟨he,hb⟩=>⟨_,he,.inr (.inl ⟨hw,rfl,rfl⟩),hb⟩
theorem I6.nil_iff {B:Nat}{w:World}{v:Value}{f:Nat×Int}(h:I6 B w v f):(f.1=0/\v=.nilIface)\/(f.1≠0/\∃T u,v=.iface T u):=by
 rcases h with ⟨c,_,j⟩|⟨c,_,j⟩|⟨c,g,q,_,_,j,_⟩
 ·exact .inl ⟨c,j⟩
 ·exact .inr ⟨c,_,_,j⟩
 ·exact .inr ⟨c,_,_,j⟩
theorem aO8 (B:Nat) (n:Nt) (w:World) (j r y l k s:Value) (h:eJ B w n j r y l k s) (hB:B≤w.heap.size) (J:jB n) (I:(fY n).1≠0) :
 Calls prog 48 #[.agg #[.int .i64 n.places,j,r,y,l,k,s]] w fun e w'=>∃v,e=.returned (.tuple #[.pointer none,v])/\I6 w.heap.size w' v (fY n)/\Below w.heap.size w w':=by
 have D:Calls prog 21 #[.agg #[.int .i64 n.places,j,r,y,l,k,s]] (w.alloc (.cells #[.int .i64 n.places,j,r,y,l,k,s] 26)) fun e w'=>∃T u,e=.returned (.iface T u)/\Hid (I6 w.heap.size w' (.iface T u) (fY n)/\Below w.heap.size w w'):=by
  refine (iU B n _ j r y l k s (h.below ((aE w _).mono hB) (aO4 _)) (aO6 hB (aE w _).size) J).mono fun e w' ⟨v,he,c,hb⟩=>?_
  rcases c.nil_iff with ⟨Q,_⟩|⟨_,T,u,rfl⟩
  ·exact absurd Q I
  ·refine ⟨T,u,he,?_,iF (aE w _) hb⟩
   rcases c with c|c|⟨Z,g,q,O,U,Y,h5⟩
   ·exact .inl c
   ·exact .inr (.inl c)
   ·exact .inr (.inr ⟨Z,g,q,O,aO6 (aE w _).size U,Y,h5⟩)
 clear h hB J I
 go_enter Tryz.func48,Tryz.ntmps48
 go_wp2_with (go_at_call 21;refine D.mono ?_;rintro e w1 ⟨T,u,rfl,X⟩)
 go_ret2
 exact ⟨_,rfl,X.out.1,X.out.2⟩
theorem Qz (B:Nat) (n:Nt) (w:World) (l u D I s y:Value) (h:eJ B w n l u D I s y) (hB:B≤w.heap.size) (hs:jB n) (ae:n.first.length≤100000) (hw:(fY n).1=0) :
 Calls prog 48 #[.agg #[.int .i64 n.places,l,u,D,I,s,y]] w fun e w'=>∃bm g,e=.returned (.tuple #[.pointer (some ⟨bm,0,none⟩),.nilIface])/\Oe B w' bm g n n.first/\w.heap.size≤bm/\w.heap.size≤g/\bm<w'.heap.size/\Below w.heap.size w w':=by
 have HV:Hid (eJ B w n l u D I s y):=h
 have ac:Calls prog 21 #[.agg #[.int .i64 n.places,l,u,D,I,s,y]] (w.alloc (.cells #[.int .i64 n.places,l,u,D,I,s,y] 26)) fun e w'=>e=.returned .nilIface/\
     Hid (Below (w.alloc (.cells #[.int .i64 n.places,l,u,D,I,s,y] 26)).heap.size (w.alloc (.cells #[.int .i64 n.places,l,u,D,I,s,y] 26)) w'):=by
  refine (iU B n _ l u D I s y (h.below ((aE w _).mono hB) (aO4 _)) (aO6 hB (aE w _).size) hs).mono fun e w' ⟨v,he,hi,hb⟩=>?_
  rcases hi.nil_iff with ⟨_,rfl⟩|⟨h1,_⟩
  ·exact ⟨he,hb⟩
  ·exact absurd hw h1
 have HX:Hid (∀w1,Below (w.alloc (.cells #[.int .i64 n.places,l,u,D,I,s,y] 26)).heap.size (w.alloc (.cells #[.int .i64 n.places,l,u,D,I,s,y] 26)) w1->w1.cell? ⟨w.heap.size,0,none⟩=some (.int .i64 n.places)/\w1.cell? ⟨w.heap.size,1,none⟩=some l/\w1.cell? ⟨w.heap.size,2,none⟩=some u/\w1.cell? ⟨w.heap.size,3,none⟩=some D/\w1.cell? ⟨w.heap.size,4,none⟩=some I/\w1.cell? ⟨w.heap.size,5,none⟩=some s/\w1.cell? ⟨w.heap.size,6,none⟩=some y/\
     (Calls prog 24 #[l] w1.drew fun e w'=>∃ad cap,e=.returned (.slice ad n.first.length cap)/\Hid (∃g,Own w' (.slice ad n.first.length cap) n.first g/\w.heap.size≤g/\g<w'.heap.size/\Below w1.heap.size w1 w'))/\Hid (Below w.heap.size w w1)):=by
  intro w1 hb
  have j:Below w.heap.size w w1:=iF (aE w _) hb
  have ai:w.heap.size<w1.heap.size:=by have:=hb.size;simp at this;omega
  refine ⟨bG hb (by simp),bG hb (by simp),bG hb (by simp),bG hb (by simp),bG hb (by simp),bG hb (by simp),bG hb (by simp),?_,j⟩
  refine (Iv (A:=(· < B)) l n.first w1.drew ((HV.out.f.carry fun b U _=>⟨U,j.block b (aO5 U hB)⟩).carry fun b U _=>⟨U,rfl⟩) ae).mono fun e w' ⟨v',he,ho,hb'⟩=>?_
  obtain ⟨g,hg,ah,O,_⟩:=rV ho
  obtain ⟨ad,cap,rfl,-⟩:=id hg
  refine ⟨ad,cap,he,?_⟩
  have r:Below w1.heap.size w1 w':=(⟨rfl,rfl,rfl,aO4 _,fun _ _=>rfl⟩:Below w1.heap.size w1 w1.drew).trans hb'
  by_cases hp:0<n.first.length
  ·exact ⟨g,hg,aO6 j.size ah,O hp,r⟩
  ·exact ⟨w.heap.size,⟨ad,cap,rfl,fun h=>absurd h hp⟩,aO4 _,aO5 ai r.size,r⟩
 clear h hs hw
 go_enter Tryz.func48,Tryz.ntmps48
 go_wp2_with (go_at_call 21;refine ac.mono ?_;rintro e w1 ⟨rfl,X⟩;obtain ⟨d0,d1,d2,d3,d4,d5,d6,ag,af⟩:=HX.out w1 X.out;clear ac)
 go_region_with (go_at_call 24;refine ag.mono ?_;rintro e w2 ⟨Q,J,rfl,Y⟩;have Z:Hid (∀o,w2.cell? ⟨w.heap.size,o,none⟩=w1.cell? ⟨w.heap.size,o,none⟩):=(by (intro o;obtain ⟨g,_,_,_,r⟩:=Y.out;exact aY (r.block w.heap.size (cC d0)) o));have f0:=(Z.out 0).trans d0;have f1:=(Z.out 1).trans d1;have f2:=(Z.out 2).trans d2;have f3:=(Z.out 3).trans d3;have f4:=(Z.out 4).trans d4;have f5:=(Z.out 5).trans d5;have f6:=(Z.out 6).trans d6)
 all_goals
  go_wp2
  go_ret2
  obtain ⟨g,hg,ab,O,r⟩:=Y.out
  have j:Below w.heap.size w w2:=iF af.out r
  have aa:=j.alloc j.size (.cells (pV n.places l u D I s y (.slice Q n.first.length J)) 145)
  have hk:bB (· < B) (· < B) w (w2.alloc (.cells (pV n.places l u D I s y (.slice Q n.first.length J)) 145)):=fun b U _=>⟨U,aa.block b (aO5 U hB)⟩
  refine ⟨w2.heap.size,g,rfl,⟨⟨l,u,D,I,s,y,.slice Q n.first.length J,heap_alloc_new _ _,HV.out.i.carry hk,HV.out.o.carry hk,HV.out.k.carry hk,HV.out.m.carry hk,HV.out.c.carry hk,hg.keep (Below.heap_alloc _ _ _ O)⟩,aO6 hB j.size,aO6 hB ab,Nat.ne_of_lt O,?_⟩,j.size,ab,?_,aa⟩
  ·simp;omega
  ·simp
def Ny (n:Nt):Prop:=n.places≤300/\n.first.length≤300/\n.ins.length≤30/\n.outs.length≤30/\n.keeps.length≤60/\n.nums.length≤60/\n.code.length≤120
theorem Ny.small {n:Nt}(h:Ny n):jB n:=⟨by have:=h.1;omega,by have:=h.2.2.2.2.2.2;omega,by have:=h.2.2.2.2.2.1;omega,by have:=h.2.2.1;have:=h.2.2.2.1;have:=h.2.2.2.2.1;omega⟩
section
variable (n:Nt) (w:World) (aq bt bx bK cK d9:Option Addr) (dg dv el et ex fd:Nat)
theorem Kt (c:300<n.places) :
 Calls prog 20 #[.agg #[.int .i64 n.places,.slice aq n.first.length dg,.slice bt n.ins.length dv,.slice bx n.outs.length el,.slice bK n.keeps.length et,.slice cK n.nums.length ex,.slice d9 n.code.length fd]] w fun e w'=>e=.returned (.bool false)/\Below w.heap.size w w':=by
 go_enter Tryz.func20,Tryz.ntmps20
 go_wp2
 go_ret
 exact ⟨rfl,aE w _⟩
theorem Su (h:n.places≤300) (c:300<n.first.length) :
 Calls prog 20 #[.agg #[.int .i64 n.places,.slice aq n.first.length dg,.slice bt n.ins.length dv,.slice bx n.outs.length el,.slice bK n.keeps.length et,.slice cK n.nums.length ex,.slice d9 n.code.length fd]] w fun e w'=>e=.returned (.bool false)/\Below w.heap.size w w':=by
 go_enter Tryz.func20,Tryz.ntmps20
 go_wp2
 go_ret
 exact ⟨rfl,aE w _⟩
theorem Ss (h:n.places≤300) (c:n.first.length≤300) (j:30<n.ins.length) :
 Calls prog 20 #[.agg #[.int .i64 n.places,.slice aq n.first.length dg,.slice bt n.ins.length dv,.slice bx n.outs.length el,.slice bK n.keeps.length et,.slice cK n.nums.length ex,.slice d9 n.code.length fd]] w fun e w'=>e=.returned (.bool false)/\Below w.heap.size w w':=by
 go_enter Tryz.func20,Tryz.ntmps20
 go_wp2
 go_ret
 exact ⟨rfl,aE w _⟩
theorem Sr (h:n.places≤300) (c:n.first.length≤300) (k:n.ins.length≤30) (j:30<n.outs.length) :
 Calls prog 20 #[.agg #[.int .i64 n.places,.slice aq n.first.length dg,.slice bt n.ins.length dv,.slice bx n.outs.length el,.slice bK n.keeps.length et,.slice cK n.nums.length ex,.slice d9 n.code.length fd]] w fun e w'=>e=.returned (.bool false)/\Below w.heap.size w w':=by
 go_enter Tryz.func20,Tryz.ntmps20
 go_wp2
 go_ret
 exact ⟨rfl,aE w _⟩
theorem Sq (h:n.places≤300) (c:n.first.length≤300) (k:n.ins.length≤30) (j:n.outs.length≤30) (l:60<n.keeps.length) :
 Calls prog 20 #[.agg #[.int .i64 n.places,.slice aq n.first.length dg,.slice bt n.ins.length dv,.slice bx n.outs.length el,.slice bK n.keeps.length et,.slice cK n.nums.length ex,.slice d9 n.code.length fd]] w fun e w'=>e=.returned (.bool false)/\Below w.heap.size w w':=by
 go_enter Tryz.func20,Tryz.ntmps20
 go_wp2
 go_ret
 exact ⟨rfl,aE w _⟩
theorem So (l:n.places≤300) (j:n.first.length≤300) (c:n.ins.length≤30) (r:n.outs.length≤30) (h:n.keeps.length≤60) (k:60<n.nums.length) :
 Calls prog 20 #[.agg #[.int .i64 n.places,.slice aq n.first.length dg,.slice bt n.ins.length dv,.slice bx n.outs.length el,.slice bK n.keeps.length et,.slice cK n.nums.length ex,.slice d9 n.code.length fd]] w fun e w'=>e=.returned (.bool false)/\Below w.heap.size w w':=by
 go_enter Tryz.func20,Tryz.ntmps20
 go_wp2
 go_ret
 exact ⟨rfl,aE w _⟩
theorem Sm (r:n.places≤300) (k:n.first.length≤300) (h:n.ins.length≤30) (s:n.outs.length≤30) (j:n.keeps.length≤60) (l:n.nums.length≤60) (c:120<n.code.length) :
 Calls prog 20 #[.agg #[.int .i64 n.places,.slice aq n.first.length dg,.slice bt n.ins.length dv,.slice bx n.outs.length el,.slice bK n.keeps.length et,.slice cK n.nums.length ex,.slice d9 n.code.length fd]] w fun e w'=>e=.returned (.bool false)/\Below w.heap.size w w':=by
 go_enter Tryz.func20,Tryz.ntmps20
 go_wp2
 go_ret
 have e:decide ((n.code.length:Int)≤120)=false:=by simp;omega
 exact ⟨congrArg (fun b=>Ending.returned (Value.bool b)) e,aE w _⟩
theorem Sl (r:n.places≤300) (k:n.first.length≤300) (h:n.ins.length≤30) (s:n.outs.length≤30) (j:n.keeps.length≤60) (l:n.nums.length≤60) (c:n.code.length≤120) :
 Calls prog 20 #[.agg #[.int .i64 n.places,.slice aq n.first.length dg,.slice bt n.ins.length dv,.slice bx n.outs.length el,.slice bK n.keeps.length et,.slice cK n.nums.length ex,.slice d9 n.code.length fd]] w fun e w'=>e=.returned (.bool true)/\Below w.heap.size w w':=by
 go_enter Tryz.func20,Tryz.ntmps20
 go_wp2
 go_ret
 have e:decide ((n.code.length:Int)≤120)=true:=by simp;omega
 exact ⟨congrArg (fun b=>Ending.returned (Value.bool b)) e,aE w _⟩
end
theorem Sw (B:Nat) (n:Nt) (w:World) (j s y r l u:Value) (h:eJ B w n j s y r l u) :
 Calls prog 20 #[.agg #[.int .i64 n.places,j,s,y,r,l,u]] w fun e w'=>∃b:Bool,e=.returned (.bool b)/\(b=true↔Ny n)/\Below w.heap.size w w':=by
 obtain ⟨aq,_,_,dg,rfl,-,-⟩:=h.f
 obtain ⟨bt,_,_,dv,rfl,-,-⟩:=h.i
 obtain ⟨bx,_,_,el,rfl,-,-⟩:=h.o
 obtain ⟨bK,_,_,et,rfl,-,-⟩:=h.k
 obtain ⟨cK,_,_,ex,rfl,-,-⟩:=h.m
 obtain ⟨d9,_,_,fd,rfl,-,-⟩:=h.c
 unfold Ny
 by_cases h0:¬(n.places≤300)
 ·exact (Kt n w aq bt bx bK cK d9 dg dv el et ex fd  (by omega)).mono fun e w' ⟨he,hb⟩=>⟨false,he,by simp;omega,hb⟩
 replace h0:=Classical.not_not.1 h0
 by_cases h1:¬(n.first.length≤300)
 ·exact (Su n w aq bt bx bK cK d9 dg dv el et ex fd h0 (by omega)).mono fun e w' ⟨he,hb⟩=>⟨false,he,by simp;omega,hb⟩
 replace h1:=Classical.not_not.1 h1
 by_cases h2:¬(n.ins.length≤30)
 ·exact (Ss n w aq bt bx bK cK d9 dg dv el et ex fd h0 h1 (by omega)).mono fun e w' ⟨he,hb⟩=>⟨false,he,by simp;omega,hb⟩
 replace h2:=Classical.not_not.1 h2
 by_cases h3:¬(n.outs.length≤30)
 ·exact (Sr n w aq bt bx bK cK d9 dg dv el et ex fd h0 h1 h2 (by omega)).mono fun e w' ⟨he,hb⟩=>⟨false,he,by simp;omega,hb⟩
 replace h3:=Classical.not_not.1 h3
 by_cases h4:¬(n.keeps.length≤60)
 ·exact (Sq n w aq bt bx bK cK d9 dg dv el et ex fd h0 h1 h2 h3 (by omega)).mono fun e w' ⟨he,hb⟩=>⟨false,he,by simp;omega,hb⟩
 replace h4:=Classical.not_not.1 h4
 by_cases h5:¬(n.nums.length≤60)
 ·exact (So n w aq bt bx bK cK d9 dg dv el et ex fd h0 h1 h2 h3 h4 (by omega)).mono fun e w' ⟨he,hb⟩=>⟨false,he,by simp;omega,hb⟩
 replace h5:=Classical.not_not.1 h5
 by_cases h6:¬(n.code.length≤120)
 ·exact (Sm n w aq bt bx bK cK d9 dg dv el et ex fd h0 h1 h2 h3 h4 h5 (by omega)).mono fun e w' ⟨he,hb⟩=>⟨false,he,by simp;omega,hb⟩
 replace h6:=Classical.not_not.1 h6
 exact (Sl n w aq bt bx bK cK d9 dg dv el et ex fd h0 h1 h2 h3 h4 h5 h6).mono fun e w' ⟨he,hb⟩=>⟨true,he,by simp;omega,hb⟩
theorem aL4 (ad:Option Addr) (b c n cap k:Nat) (j:k<n) (h:0<n->ad=some ⟨b,c,none⟩) (w:World):(Instr.indexAt 22 (.slice ad n cap) (.int .i64 (k:Int))).run prog w=.ok (.pointer (some ⟨b,c+k,none⟩)) w:=by
 obtain rfl:=h (by omega)
 rw[aY8 _ _ _ _ _ _ _ (by kernel_rfl),if_pos ⟨by omega,by omega⟩]
 have e:(sizeOf (prog.elem 22)).run prog w=.ok 1 w:=by kernel_rfl
 rw[e]
 simp[Result.andThen,Addr.add]
theorem Pp {A A':Nat->Prop}(J D:Value) (zs:List Int) (w:World) (Z:bH A w J zs) (hb:bH A' w D zs) (hl:zs.length≤1000000) :
 Calls prog 27 #[J,D] w fun e w'=>e=.returned (.bool true)/\Below w.heap.size w w':=by
 obtain ⟨l,r,y,c1,rfl,p1,I⟩:=Z
 obtain ⟨c,u,o2,c2,rfl,p2,O⟩:=hb
 have H1:Hid (0<zs.length->l=some ⟨r,y,none⟩/\A r):=p1
 have X:Hid (0<zs.length->c=some ⟨u,o2,none⟩/\A' u):=p2
 have Y:Hid _:=I
 have Q2:Hid _:=O
 clear p1 p2 I O
 go_enter Tryz.func27,Tryz.ntmps27
 go_wp2
 go_loopw [5] (fun i wr=>∃k:Nat,k≤zs.length/\i=.int .i64 k/\Below w.heap.size w wr) (fun i _=>zs.length-(intOf i).toNat)
 case atStart=>exact ⟨0,aP6 _,rfl,Below.refl _ _⟩
 case round=>
  obtain ⟨k,hk,rfl,j⟩:=hrel
  have s:Hid _:=j
  clear j
  by_cases hlt:k<zs.length
  ·have Q:=aL4 l r y zs.length c1 k hlt (fun h=>(H1.out h).1)
   have U:=aL4 c u o2 zs.length c2 k hlt (fun h=>(X.out h).1)
   obtain ⟨x,hx⟩:=gQx (zs.getD k 0)
   have y1:wr.cell? ⟨r,y+k,none⟩=some (.int .i64 x):=by rw[hx];exact bG s.out (Y.out k hlt)
   have y2:wr.cell? ⟨u,o2+k,none⟩=some (.int .i64 x):=by rw[hx];exact bG s.out (Q2.out k hlt)
   clear hx
   go_wp2_with fail
   go_quiet (fail)
   go_wp2_with fail
   go_roundw
   case rel=>exact ⟨k+1,by omega,by go_num,iF s.out ⟨rfl,rfl,rfl,aO4 _,fun _ _=>rfl⟩⟩
   case measure=>simp[intOf];omega
  ·go_wp2
   go_ret
   exact ⟨rfl,s.out⟩
end Nx
end
end Go.Proofs.YthieaobjdpfcoaaGreatDoor
