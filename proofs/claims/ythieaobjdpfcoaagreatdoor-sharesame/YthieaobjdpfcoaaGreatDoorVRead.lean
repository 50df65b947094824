import Derived.Test.YthieaobjdpfcoaaGreatDoorVCw
import Derived.Shelf.Strconv.ParseIntPublic10
import Derived.Test.YthieaobjdpfcoaaGreatDoorProg
import Derived.Shelf.Strings.Prefix
set_option maxRecDepth 100000
set_option maxHeartbeats 8000000
namespace Go.Proofs.YthieaobjdpfcoaaGreatDoor
open Go.Proofs.Tryz (prog)
section
open Go.RowKit Px
def gY {α:Type}(f:α->Nat):List α->Nat
 | []=>0
 | a::r=>f a+gY f r
theorem C9 {α:Type}(f:α->Nat) {l:List α}{k:Nat}{a:α}(h:l[k]?=some a):gY f (l.drop k)=f a+gY f (l.drop (k+1)):=by
 obtain ⟨c,rfl⟩:=aO7.1 h
 rw[aP4 c,gY]
theorem G6 {α:Type}{l:List α}{k:Nat}{a:α}(h:l[k]?=some a):l.drop k=a::l.drop (k+1):=by
 obtain ⟨c,rfl⟩:=aO7.1 h
 exact aP4 c
section
variable {ρ:Type}{ck pb mb nm gv:Nat}{adv:Option Addr}{capv:Nat}{vs:List bQ}
theorem kL.fr {w w':World}{n k:Nat}(h:kL w ck pb mb nm gv adv capv vs n) (j:Fr w.heap.size [ck] w w') (hb:w'.heap[ck]?=some (.cells #[.slice adv vs.length capv,.func (.func 112) #[] #[.pointer (some ⟨pb,0,none⟩)],.int .i64 (k:Int)] 129 (0,0))):kL w' ck pb mb nm gv adv capv vs k:=by
 obtain ⟨r,u,s⟩:=h.ne
 refine ⟨hb,by rw[j.block pb (aB h.hpb) (by simpa using Ne.symm r)];exact h.hpb,h.hmb.keep (j.block mb h.hmb.lt (by simpa using Ne.symm u)),fun c=>⟨(h.hv c).1,aO5 (h.hv c).2 j.size⟩,fun i d l=>?_,h.ne⟩
 have c:0<vs.length:=by have:=(aO7.1 l).1;omega
 rw[j.cell (p:=⟨gv,i*3,none⟩) (h.hv c).2 (by simpa using Ne.symm (s c))]
 exact h.hk i d l
def sF (ck pb mb nm gv:Nat) (adv:Option Addr) (capv:Nat) (vs:List bQ) (res:I4) (w:World) (e:Ending) (w':World):Prop:=
 Fr w.heap.size [ck] w w'/\((∃m,res=.ok m/\e=.returned .nilIface/\kL w' ck pb mb nm gv adv capv vs m)\/∃c p g,res=.error (c,p)/\e=.returned (.iface 89 (.pointer (some ⟨g,0,none⟩)))/\w'.heap[g]?=some (.cells #[.int .i64 ((c:Nat):Int),.int .i64 ((p:Nat):Int)] 91 (0,0))/\w.heap.size≤g)
def Ha (A:Nat->Prop) (w:World) (ad:Option Addr) (N:Nat) (l:List (cF ρ)) (Q:World->cF ρ->Value->Prop):Prop:=∃g,(0<N->ad=some ⟨g,0,none⟩/\g<w.heap.size)/\∀(i:Nat) (s:cF ρ),l[i]?=some s->∃ve vd vl p ay ar gy capy capr,Ns A w g i s ve vd vl p ay ar gy capy capr/\Q w s (.slice ar s.regions.length capr)
theorem Ha.sts {A:Nat->Prop}{w:World}{ad:Option Addr}{N:Nat}{l:List (cF ρ)}{Q:World->cF ρ->Value->Prop}(h:Ha A w ad N l Q) (Z:N=l.length) (Y:∀s∈l,I5 s):∃g,(0<N->ad=some ⟨g,0,none⟩)/\mH w g l:=by
 obtain ⟨g,n,u⟩:=h
 refine ⟨g,fun k=>(n k).1,Ns.sts (A:=A) (fun k=>(n (by omega)).2) (fun i s J=>?_) Y⟩
 obtain ⟨U,O,D,p,I,r,X,c,j,y,_⟩:=u i s J
 exact ⟨U,O,D,p,I,r,X,c,j,y⟩
def Ja (ck pb mb nm gv:Nat) (adv:Option Addr) (capv:Nat) (vs:List bQ) (R:List ρ->Nat->I4) (w:World) (s:cF ρ) (v:Value) (n:Nat):Prop:=
 Calls prog 68 #[.pointer (some ⟨ck,0,none⟩),v] w (sF ck pb mb nm gv adv capv vs (gR R s.regions n) w)
theorem D8 {w:World}{n:Nat}(h:kL w ck pb mb nm gv adv capv vs n) {A:Nat->Prop}{ad:Option Addr}{N cap:Nat}{l:List (cF ρ)}{R:List ρ->Nat->I4}{Q:World->cF ρ->Value->Prop}(cs:cF ρ->Nat) (hn:Hid (N=l.length))
    (ae:Hid (∀w',Fr w.heap.size [ck] w w'->Ha A w' ad N l Q)) (hN:Hid (∀s∈l,I5 s)) (bo:Hid (∀s∈l,∀n m,gR R s.regions n=.ok m->m=n+cs s)) (bm:Hid (n+gY (fun s=>1+cs s) l≤1000000)) (bf:N≤1000000)
    (bn:Hid (∀w' s v m,s∈l->Fr w.heap.size [ck] w w'->Q w' s v->kL w' ck pb mb nm gv adv capv vs m->m+cs s≤1000000->Ja ck pb mb nm gv adv capv vs R w' s v m)) :
 Calls prog 113 #[.pointer (some ⟨ck,0,none⟩),.slice ad N cap] w (sF ck pb mb nm gv adv capv vs (pE vs R l n) w):=by
 obtain ⟨g0,bb,bh⟩:=(ae.out w (Fr.refl _ _ _)).sts hn.out hN.out
 have bj:E5 w g0 N (bD l):=by rw[hn.out];exact bh.names
 have be:=oU (cap:=cap) bb bf bj
 have HC:Hid (kL w ck pb mb nm gv adv capv vs n):=h
 have c2:=aF h.box 2 (u:=.int .i64 (n:Int)) rfl
 clear h bb bh bj
 go_enter Tryz.func113,Tryz.ntmps113
 go_upto_region 3 with (refine be.mono ?_;rintro e w1 ⟨f,rfl,⟨Z,y,ak,rfl,aa,X⟩,hb⟩;have HF:Hid (w1.heap[Z]?=some (.cells #[.map (some y)] 177 (0,0))/\iD w1 y ak (jT (bD l))/\Below w.heap.size w w1):=⟨aa,X,hb⟩;clear aa X hb)
 clear be c2
 have HP:Hid (Z≠ck/\y≠ck):=by
  have bg:=aD HF.out.2.2 HC.out.box
  constructor
  ·intro e
   have:=HF.out.1
   rw[e,bg] at this
   simp at this
  ·intro e
   obtain ⟨D,⟨es,c,h3,_⟩,_⟩:=HF.out.2.1
   rw[e,bg] at h3
   simp at h3
 go_wp2_with fail
 go_loopg [20] N (fun f i wr=>∃k:Nat,f=N-k/\k≤N/\i=.int .i64 (k:Int)/\Hid (∃m,kL wr ck pb mb nm gv adv capv vs m/\Fr w.heap.size [ck] w wr/\gA vs R (bD l) l 0 n=gA vs R (bD l) (l.drop k) k m/\m+gY (fun s=>1+cs s) (l.drop k)≤1000000/\wr.heap[Z]?=some (.cells #[.map (some y)] 177 (0,0))/\iD wr y ak (jT (bD l))))
 case atStart=>exact ⟨0,by omega,by omega,rfl,n,HC.out.below HF.out.2.2,Fr.of_below HF.out.2.2 _,rfl,bm.out,HF.out.1,HF.out.2.1⟩
 case round=>
  obtain ⟨k,rfl,hk,rfl,hr⟩:=hrel
  obtain ⟨m,hC,ag,ab,ac,aa,X⟩:=hr.out
  clear hr
  by_cases hlt:k<N
  ·obtain ⟨s,hs⟩:∃s,l[k]?=some s:=⟨l[k]'(by rw[<-hn.out];exact hlt),by rw[aN4]⟩
   have ba:=aP1 hs
   rw[C9 _ hs] at ac
   rw[G6 hs,gA] at ab
   have d2:=aF hC.box 2 (u:=.int .i64 (m:Int)) rfl
   have z2:=aG hC.box 2
   have bp:IntKind.i64.wrap ((m:Int)+1)=(m:Int)+1:=by rw[IntKind.wrap_i64];omega
   obtain ⟨wa,Y⟩:=gQx (wr.setCell ⟨ck,2,none⟩ (.int .i64 ((m:Int)+1)))
   have af:Fr wr.heap.size [ck] wr wa:=by rw[Y];exact (Fr.refl _ _ _).setCell (.inr (by simp)) _
   have ap:kL wa ck pb mb nm gv adv capv vs (m+1):=hC.fr af (by
    rw[Y]
    exact cH (l:=[.slice adv vs.length capv,.func (.func 112) #[] #[.pointer (some ⟨pb,0,none⟩)],.int .i64 (m:Int)]) hC.box 2 _)
   have ah:=lR ag af
   obtain ⟨g,al,am⟩:=ae.out wa ah
   obtain ⟨ve,vd,vl,p,ay,ar,gy,aw,r,hM,-⟩:=am k s hs
   have aj:wa.heap[Z]?=some (.cells #[.map (some y)] 177 (0,0)):=by rw[af.block Z (aB aa) (by simpa using HP.out.1)];exact aa
   have ai:iD wa y ak (jT (bD l)):=X.keep (af.block y X.lt (by simpa using HP.out.2))
   have j:=Cf (cap:=cap) ap hlt (fun h=>(al h).1) hM (hN.out s ba) aj ai
   obtain ⟨E,hE⟩:∃E,Hid (jH vs (bD l) k s=E):=⟨_,rfl⟩
   rw[hE.out] at j ab
   have HR:Hid _:=ab
   have HA:Hid (_/\_/\_/\_):=⟨ap,ah,aj,ai⟩
   have bi:Hid _:=ac
   have an:Hid _:=hs
   rw[Y] at j
   clear hC ag ab ac aa X hs ba af ap ah al am hM aj ai
   by_cases hE0:E=0
   ·subst hE0
    rw[if_neg (by simp)] at HR
    rw[show ((0:Nat):Int)=0 from rfl] at j
    rw[<-Y] at j
    have az:Hid (∀w',Below wa.heap.size wa w'->w'.heap[Z]?=some (.cells #[.map (some y)] 177 (0,0))/\iD w' y ak (jT (bD l))/\Fr w.heap.size [ck] w w'/\∃g ar r,(0<N->ad=some ⟨g,0,none⟩)/\w'.cell? ⟨g,k*9+8,none⟩=some (.slice ar s.regions.length r)/\Ja ck pb mb nm gv adv capv vs R w' s (.slice ar s.regions.length r) (m+1)):=fun w' hb=>by
     have J:Fr w.heap.size [ck] w w':=lR HA.out.2.1 (Fr.of_below hb _)
     obtain ⟨g,al,am⟩:=ae.out w' J
     obtain ⟨ve,vd,vl,p,ay,ar,gy,aw,r,hM,hQ⟩:=am k s an.out
     exact ⟨aD hb HA.out.2.2.1,HA.out.2.2.2.below hb,J,g,ar,r,fun h=>(al h).1,hM.c8,bn.out w' s _ (m+1) (aP1 an.out) J hQ (HA.out.1.below hb) (by have:=bi.out;omega)⟩
    rw[Y] at j
    cases hrs:gR R s.regions (m+1) with
    | error x=>
     obtain ⟨c,pl⟩:=x
     rw[hrs] at HR
     have av:Hid (pE vs R l n=.error (c,pl)):=by unfold Hid pE;rw[HR.out]
     go_upto_region 11 with (go_at_call 153;refine j.mono ?_;rintro e w' ⟨rfl,O⟩;rw[<-Y] at O;obtain ⟨-,-,J,g,ar,r,au,c8,hI⟩:=az.out w' O;unfold Ja at hI;rw[hrs] at hI;have HI:Hid _:=J;have bk:=Xo ad g N cap k hlt au;clear O J j)
     have ao:Calls prog 68 #[.pointer (some ⟨ck,0,none⟩),.slice ar s.regions.length r] w' fun e I=>∃g,e=.returned (.iface 89 (.pointer (some ⟨g,0,none⟩)))/\Hid (I.heap[g]?=some (.cells #[.int .i64 ((c:Nat):Int),.int .i64 ((pl:Nat):Int)] 91 (0,0))/\w'.heap.size≤g/\Fr w'.heap.size [ck] w' I):=hI.mono fun e I ⟨hF,ho⟩=>by
      rcases ho with ⟨_,he,_⟩|⟨c',p',g',he,h1,h2,h3⟩
      ·simp at he
      ·injection he with he
       injection he with e1 e2
       subst e1;subst e2
       exact ⟨g',h1,h2,h3,hF⟩
     clear hI
     go_wp2_with (refine ao.mono ?_;rintro e I ⟨ge,rfl,U⟩)
     go_ret
     refine ⟨lR HI.out U.out.2.2,.inr ⟨c,pl,ge,av.out,rfl,U.out.1,aO6 HI.out.size U.out.2.1⟩⟩
    | ok m2=>
     rw[hrs] at HR
     have X:=bo.out s (aP1 an.out) _ _ hrs
     go_upto_region 11 with (go_at_call 153;refine j.mono ?_;rintro e w' ⟨rfl,O⟩;rw[<-Y] at O;obtain ⟨ax,bc,J,g,ar,r,au,c8,hI⟩:=az.out w' O;unfold Ja at hI;rw[hrs] at hI;have HI:Hid (_/\_/\_):=⟨J,ax,bc⟩;have bk:=Xo ad g N cap k hlt au;clear O J j ax bc)
     have ao:Calls prog 68 #[.pointer (some ⟨ck,0,none⟩),.slice ar s.regions.length r] w' fun e I=>e=.returned .nilIface/\Hid (kL I ck pb mb nm gv adv capv vs m2/\Fr w'.heap.size [ck] w' I):=hI.mono fun e I ⟨hF,ho⟩=>by
      rcases ho with ⟨m',he,h1,h2⟩|⟨_,_,_,he,_⟩
      ·injection he with he
       subst he
       exact ⟨h1,h2,hF⟩
      ·simp at he
     clear hI
     go_wp2_with (refine ao.mono ?_;rintro e I ⟨rfl,U⟩)
     go_roundg (N-(k+1))
     case measure=>omega
     case rel=>
      refine ⟨k+1,rfl,by omega,by go_num,m2,U.out.1,lR HI.out.1 U.out.2,HR.out,by have:=bi.out;omega,?_,?_⟩
      ·rw[U.out.2.block Z (aB HI.out.2.1) (by simpa using HP.out.1)];exact HI.out.2.1
      ·exact HI.out.2.2.keep (U.out.2.block y HI.out.2.2.lt (by simpa using HP.out.2))
   ·rw[if_pos hE0] at HR
    have av:Hid (pE vs R l n=.error (E,m)):=by unfold Hid pE;rw[HR.out]
    have h1:¬(E:Int)=0:=by omega
    have h2:((E:Int)==0)=false:=by simp;omega
    go_wp2_with (refine j.mono ?_;rintro e w' ⟨rfl,O⟩;rw[<-Y] at O;have HW:Hid _:=O;clear O)
    go_ret
    refine ⟨lR (lR HA.out.2.1 (Fr.of_below HW.out _)) (Fr.of_below (aL _ _) _),.inr ⟨E,m,_,av.out,rfl,aX _ _,?_⟩⟩
    exact aO6 HA.out.2.1.size HW.out.size
  ·obtain rfl:k=N:=by omega
   rw[show l.drop k=[] by rw[hn.out];exact aR4,gA] at ab
   obtain ⟨g,hg,hS⟩:=(ae.out wr ag).sts hn.out hN.out
   have j:=qJ (cap:=cap) hn bf hg hS
   obtain ⟨E,hE⟩:∃E,Hid (dD l=E):=⟨_,rfl⟩
   rw[hE.out] at j
   have HR:Hid (pE vs R l n=if E≠0 then .error (E,n) else .ok m):=by unfold Hid pE;rw[ab,hE.out]
   have HA:Hid (_/\_):=⟨hC,ag⟩
   clear hC ag ab ac aa X hg hS
   by_cases hE0:E=0
   ·subst hE0
    rw[if_neg (by simp)] at HR
    rw[show ((0:Nat):Int)=0 from rfl] at j
    go_wp2_with (refine j.mono ?_;rintro e w' ⟨rfl,O⟩)
    go_ret
    exact ⟨lR HA.out.2 (Fr.of_below O _),.inl ⟨m,HR.out,rfl,HA.out.1.below O⟩⟩
   ·rw[if_pos hE0] at HR
    have h1:¬(E:Int)=0:=by omega
    have h2:((E:Int)==0)=false:=by simp;omega
    go_wp2_with (refine j.mono ?_;rintro e w' ⟨rfl,O⟩;have HW:Hid _:=O;clear O)
    go_ret
    refine ⟨lR (lR HA.out.2 (Fr.of_below HW.out _)) (Fr.of_below (aL _ _) _),.inr ⟨E,n,_,HR.out,rfl,aX _ _,?_⟩⟩
    exact aO6 HA.out.2.size HW.out.size
end
end
section
open Go.RowKit Px
section
variable {ρ:Type}{ck pb mb nm gv:Nat}{adv:Option Addr}{capv:Nat}{vs:List bQ}
theorem Py {R:List ρ->Nat->I4}{l:List (List ρ)}{k m:Nat}{r:List ρ}(h:l[k]?=some r):gR R (l.drop k) m=match R r m with
    | .error x=>.error x
    | .ok m'=>gR R (l.drop (k+1)) m':=by rw[G6 h,gR];cases R r m<;>rfl
theorem Dz {w:World}{n:Nat}(h:kL w ck pb mb nm gv adv capv vs n) {ad:Option Addr}{N cap:Nat}{l:List (List ρ)}{R:List ρ->Nat->I4}{I:World->List ρ->Value->Prop}(cr:List ρ->Nat) (hn:Hid (N=l.length)) (X:N≤maxLen)
    (aa:Hid (∀w',Fr w.heap.size [ck] w w'->∃g,(0<N->ad=some ⟨g,0,none⟩)/\∀(i:Nat) (r:List ρ),l[i]?=some r->∃a b c,w'.cell? ⟨g,i,none⟩=some (.slice a b c)/\I w' r (.slice a b c)))
    (ae:Hid (∀r∈l,∀n m,R r n=.ok m->m=n+cr r)) (af:Hid (n+gY cr l≤1000000))
    (ab:Hid (∀w' r v m,r∈l->Fr w.heap.size [ck] w w'->I w' r v->kL w' ck pb mb nm gv adv capv vs m->m+cr r≤1000000->Calls prog 113 #[.pointer (some ⟨ck,0,none⟩),v] w' (sF ck pb mb nm gv adv capv vs (R r m) w'))) :
 Calls prog 68 #[.pointer (some ⟨ck,0,none⟩),.slice ad N cap] w (sF ck pb mb nm gv adv capv vs (gR R l n) w):=by
 have ai:(N:Int)≤9223372036854775807:=by unfold maxLen at X;omega
 have HC:Hid _:=h
 clear h X
 go_enter Tryz.func68,Tryz.ntmps68
 go_wp2_with fail
 go_loopg [10] N (fun f i wr=>∃k:Nat,f=N-k/\k≤N/\i=.int .i64 (k:Int)/\Hid (∃m,kL wr ck pb mb nm gv adv capv vs m/\Fr w.heap.size [ck] w wr/\gR R l n=gR R (l.drop k) m/\m+gY cr (l.drop k)≤1000000))
 case atStart=>exact ⟨0,by omega,by omega,rfl,n,HC.out,Fr.refl _ _ _,rfl,af.out⟩
 case round=>
  obtain ⟨k,rfl,hk,rfl,hr⟩:=hrel
  obtain ⟨m,hC,D,J,u⟩:=hr.out
  clear hr
  by_cases hlt:k<N
  ·obtain ⟨r,hs⟩:∃r,l[k]?=some r:=⟨l[k]'(by rw[<-hn.out];exact hlt),by rw[aN4]⟩
   have U:=aP1 hs
   rw[C9 _ hs] at u
   rw[Py hs] at J
   obtain ⟨g,hg,Z⟩:=aa.out wr D
   obtain ⟨va,vb,vc,ah,hI⟩:=Z k r hs
   have j:=ab.out wr r _ m U D hI hC (by omega)
   have ag:=K8 ad g N cap k hlt hg
   have HR:Hid _:=J
   have HF:Hid _:=D
   have ac:Hid _:=u
   have Y:=ae.out r U m
   clear hC D J u hs U hg Z hI
   cases hrs:R r m with
   | error x=>
    obtain ⟨c,pl⟩:=x
    rw[hrs] at HR j
    have Q:Calls prog 113 #[.pointer (some ⟨ck,0,none⟩),.slice va vb vc] wr fun e s=>∃g,e=.returned (.iface 89 (.pointer (some ⟨g,0,none⟩)))/\Hid (s.heap[g]?=some (.cells #[.int .i64 ((c:Nat):Int),.int .i64 ((pl:Nat):Int)] 91 (0,0))/\wr.heap.size≤g/\Fr wr.heap.size [ck] wr s):=j.mono fun e s ⟨hF,ho⟩=>by
     rcases ho with ⟨_,O,_⟩|⟨c',p',g',O,h1,h2,h3⟩
     ·simp at O
     ·injection O with O
      injection O with e1 e2
      subst e1;subst e2
      exact ⟨g',h1,h2,h3,hF⟩
    clear j
    go_wp2_with (refine Q.mono ?_;rintro e s ⟨ge,rfl,y⟩)
    go_ret
    refine ⟨lR HF.out y.out.2.2,.inr ⟨c,pl,ge,HR.out,rfl,y.out.1,aO6 HF.out.size y.out.2.1⟩⟩
   | ok m2=>
    rw[hrs] at HR j
    have aj:=Y m2 hrs
    have Q:Calls prog 113 #[.pointer (some ⟨ck,0,none⟩),.slice va vb vc] wr fun e s=>e=.returned .nilIface/\Hid (kL s ck pb mb nm gv adv capv vs m2/\Fr wr.heap.size [ck] wr s):=j.mono fun e s ⟨hF,ho⟩=>by
     rcases ho with ⟨m',O,h1,h2⟩|⟨_,_,_,O,_⟩
     ·injection O with O
      subst O
      exact ⟨h1,h2,hF⟩
     ·simp at O
    clear j
    go_wp2_with (refine Q.mono ?_;rintro e s ⟨rfl,y⟩)
    go_roundg (N-(k+1))
    case measure=>omega
    case rel=>exact ⟨k+1,rfl,by omega,by go_num,m2,y.out.1,lR HF.out y.out.2,HR.out,by have:=ac.out;omega⟩
  ·obtain rfl:k=N:=by omega
   rw[show l.drop k=[] by rw[hn.out];exact aR4,gR] at J
   have HA:Hid (_/\_/\_):=⟨hC,D,J⟩
   clear hC D J u
   go_wp2_with fail
   go_ret
   exact ⟨HA.out.2.1,.inl ⟨m,HA.out.2.2,rfl,HA.out.1⟩⟩
end
def Cz:(k:Nat)->St k->Nat
 | 0=>fun _=>0
 | k+1=>fun s=>gY (gY fun x=>1+Cz k x) (cF.regions s)
def Y4 (k:Nat) (r:List (St k)):Nat:=gY (fun x=>1+Cz k x) r
def He:(k:Nat)->St k->Prop
 | 0=>fun _=>True
 | k+1=>fun s=>I5 s/\∀r∈cF.regions s,∀x∈r,He k x
section
variable {ck pb mb nm gv:Nat}{adv:Option Addr}{capv:Nat}{vs:List bQ}
theorem wG {ρ:Type}{R:List ρ->Nat->I4}{k:List ρ->Nat}:∀{l:List (List ρ)}{n m:Nat},(∀r∈l,∀n m,R r n=.ok m->m=n+k r)->gR R l n=.ok m->m=n+gY k l:=by
 intro l
 induction l with
 | nil=>intro n m _ h;rw[gR] at h;injection h with h;rw[gY];omega
 | cons r rs ih=>
  intro n m j h
  rw[gR] at h
  split at h
  ·exact absurd h (by simp)
  ·rename_i m' hr
   have y:=j r (by simp) _ _ hr
   have u:=ih (fun s c=>j s (by simp[c])) h
   rw[gY];omega
theorem zX {ρ:Type}{R:List ρ->Nat->I4}{cs:cF ρ->Nat}{ns:List bE}:∀{l:List (cF ρ)}{i n m:Nat},(∀s∈l,∀n m,gR R s.regions n=.ok m->m=n+cs s)->gA vs R ns l i n=.ok m->m=n+gY (fun s=>1+cs s) l:=by
 intro l
 induction l with
 | nil=>intro i n m _ h;rw[gA] at h;injection h with h;rw[gY];omega
 | cons s r ih=>
  intro i n m j h
  rw[gA] at h
  split at h
  ·exact absurd h (by simp)
  ·split at h
   ·exact absurd h (by simp)
   ·rename_i m' hr
    have y:=j s (by simp) _ _ hr
    have u:=ih (fun k c=>j k (by simp[c])) h
    rw[gY];omega
theorem yK:∀(k:Nat) (r:List (St k)) (n m:Nat),nB vs k r n=.ok m->m=n+Y4 k r:=by
 intro k
 induction k with
 | zero=>intro r n m h;rw[nB] at h;exact absurd h (by simp)
 | succ k ih=>
  intro r n m h
  have c:pE vs (nB vs k) r n=.ok m:=h
  unfold pE at c
  split at c
  ·exact absurd c (by simp)
  ·rename_i m' hs
   split at c
   ·exact absurd c (by simp)
   ·injection c with c
    subst c
    exact zX (cs:=fun s=>gY (gY fun x=>1+Cz k x) s.regions) (fun s _ n m j=>wG (fun r _ n m h=>ih r n m h) j) hs
def Jc (ck pb mb nm gv:Nat) (adv:Option Addr) (capv:Nat) (vs:List bQ) (A:Nat->Prop) (k:Nat):Prop:=∀(w:World) (l:List (St k)) (v:Value) (n:Nat),kL w ck pb mb nm gv adv capv vs n->aM A w k l v->(∀x∈l,He k x)->n+Y4 k l≤1000000->
 Calls prog 113 #[.pointer (some ⟨ck,0,none⟩),v] w (sF ck pb mb nm gv adv capv vs (nB vs k l n) w)
def Yy (ck pb mb nm gv:Nat) (adv:Option Addr) (capv:Nat) (vs:List bQ) (A:Nat->Prop) (k:Nat):Prop:=∀(w:World) (l:List (List (St k))) (v:Value) (n:Nat),kL w ck pb mb nm gv adv capv vs n->gP A w (aM A w k) l v->(∀r∈l,∀x∈r,He k x)->n+gY (Y4 k) l≤1000000->
 Calls prog 68 #[.pointer (some ⟨ck,0,none⟩),v] w (sF ck pb mb nm gv adv capv vs (gR (nB vs k) l n) w)
theorem aM.csl {A:Nat->Prop}{w:World}{k:Nat}{l:List (St k)}{v:Value}(h:aM A w k l v):∃a b c,v=.slice a b c:=by
 cases k with
 | zero=>exact ⟨_,_,_,h.2⟩
 | succ k=>obtain ⟨n,g,cap,j,_⟩:=aM.open h;exact ⟨_,_,_,j⟩
theorem yA {α:Type}(f:α->Nat) {l:List α}{a:α}(h:a∈l):f a≤gY f l:=by
 induction l with
 | nil=>simp at h
 | cons b r ih=>
  rw[gY]
  rcases aW5.1 h with rfl|h
  ·omega
  ·have:=ih h;omega
theorem yB {α:Type}(f:α->Nat) (l:List α):l.length≤gY (fun x=>1+f x) l:=by
 induction l with
 | nil=>simp
 | cons b r ih=>rw[gY,aV8];omega
theorem G8 {A:Nat->Prop}(hA:∀x,A x->x≠ck) {k:Nat}(hR:Jc ck pb mb nm gv adv capv vs A k):Yy ck pb mb nm gv adv capv vs A k:=by
 intro w l v n X U hN hb
 obtain ⟨ad,g,cap,rfl,Y,h2,h3⟩:=U.len
 refine Dz X (I:=fun j=>aM A j k) (Y4 k) rfl Y (fun j Q=>?_) (fun r _ n m h=>yK k r n m h) hb (fun j r v m hr Q hv D hm=>hR j r v m D hv (hN r hr) hm)
 have O:bB A A w j:=Q.keep fun x hx=>by simpa using hA x hx
 have y:=U.carry O (aM.carry O k)
 obtain ⟨aa,g',J,e,_,q2,Z⟩:=y.len
 injection e with e1 e2 e3
 subst e1
 refine ⟨g',fun hp=>(q2 hp).1,fun i r hi=>?_⟩
 obtain ⟨u,hu,s⟩:=Z i r hi
 obtain ⟨a,b,c,rfl⟩:=s.csl
 exact ⟨a,b,c,hu,s⟩
theorem Wk {A:Nat->Prop}(hA:∀x,A x->x≠ck):∀k,Jc ck pb mb nm gv adv capv vs A k:=by
 intro k
 induction k with
 | zero=>
  intro w l v n u j _ hb
  obtain ⟨rfl,rfl⟩:=j
  have:=D8 (ρ:=Unit) (cap:=0) (ad:=none) (l:=[]) (N:=0) (R:=fun _ n=>.ok n) (A:=fun _=>True) (Q:=fun _ _ _=>True) u (fun _=>0) rfl (fun c _=>⟨0,fun h=>absurd h (by omega),fun i s h=>absurd h (by simp)⟩) (fun s h=>absurd h (by simp)) (fun s h=>absurd h (by simp)) (by rw[Hid,gY];have:n+Y4 0 ([]:List (St 0))≤1000000:=hb;omega) (by omega) (fun _ s _ _ h=>absurd h (by simp))
  exact this
 | succ k ih=>
  intro w l v n u j U hb
  obtain ⟨ad,g,cap,rfl,h1,h2,h3⟩:=aM.open j
  have hl:List.length l≤1000000:=by
   have:=yB (fun x=>Cz (k+1) x) l
   have ab:n+gY (fun x=>1+Cz (k+1) x) l≤1000000:=hb
   omega
  refine D8 (ρ:=St k) (A:=A) (R:=nB vs k) (Q:=fun c s v=>gP A c (aM A c k) s.regions v) u (fun s=>Cz (k+1) s) rfl (fun c O=>?_) (fun s y=>(U s y).1) (fun s _ n m h=>wG (fun r _ n m h=>yK k r n m h) h) hb hl (fun c s v m y O hv I hm=>G8 hA ih c s.regions v m I hv (U s y).2 hm)
  have X:bB A A w c:=O.keep fun x hx=>by simpa using hA x hx
  have D:aM A c (k+1) l (.slice ad (List.length l) cap):=aM.carry X (k+1) l _ j
  obtain ⟨aa,Z,J,e,_,q2,Y⟩:=aM.open D
  injection e with e1 e2 e3
  subst e1
  exact ⟨Z,fun hp=>q2 hp,Y⟩
end
end
end Go.Proofs.YthieaobjdpfcoaaGreatDoor
namespace Go.Proofs
open Tryz (prog)
open Go.Shelf
def Tryz.laysC174_ren:Go.Shelf.Ren:=⟨fun|174=>194|247=>221|245=>222|287=>236|279=>237|280=>238|281=>239|282=>240|321=>245|322=>246|316=>147|171=>248|205=>247|243=>252|246=>254|283=>255|284=>256|285=>257|286=>258|129=>136|317=>259|318=>260|319=>261|320=>262|337=>263|338=>264|n=>n,fun|9=>9|3=>3|2=>2|75=>33|85=>264|4=>4|167=>310|5=>5|53=>208|175=>311|46=>154|168=>313|37=>262|0=>0|210=>322|21=>21|127=>263|145=>326|143=>324|171=>333|173=>335|212=>338|51=>206|20=>20|213=>339|232=>340|233=>341|80=>170|n=>n,fun|15=>4|16=>5|17=>8|18=>9|19=>10|n=>n⟩
theorem Tryz.laysC174:Go.Proofs.LaysC.n174 prog Tryz.laysC174_ren:={
 mixed:=by kernel_rfl
 f129:=Tryz.func136.trans (congrArg some (by kernel_rfl))
 f171:=Tryz.func248.trans (congrArg some (by kernel_rfl))
 f174:=Tryz.func194.trans (congrArg some (by kernel_rfl))
 f205:=Tryz.func247.trans (congrArg some (by kernel_rfl))
 f243:=Tryz.func252.trans (congrArg some (by kernel_rfl))
 f245:=Tryz.func222.trans (congrArg some (by kernel_rfl))
 f246:=Tryz.func254.trans (congrArg some (by kernel_rfl))
 f247:=Tryz.func221.trans (congrArg some (by kernel_rfl))
 f279:=Tryz.func237.trans (congrArg some (by kernel_rfl))
 f280:=Tryz.func238.trans (congrArg some (by kernel_rfl))
 f281:=Tryz.func239.trans (congrArg some (by kernel_rfl))
 f282:=Tryz.func240.trans (congrArg some (by kernel_rfl))
 f283:=Tryz.func255.trans (congrArg some (by kernel_rfl))
 f284:=Tryz.func256.trans (congrArg some (by kernel_rfl))
 f285:=Tryz.func257.trans (congrArg some (by kernel_rfl))
 f286:=Tryz.func258.trans (congrArg some (by kernel_rfl))
 f287:=Tryz.func236.trans (congrArg some (by kernel_rfl))
 f316:=Tryz.func147.trans (congrArg some (by kernel_rfl))
 f317:=Tryz.func259.trans (congrArg some (by kernel_rfl))
 f318:=Tryz.func260.trans (congrArg some (by kernel_rfl))
 f319:=Tryz.func261.trans (congrArg some (by kernel_rfl))
 f320:=Tryz.func262.trans (congrArg some (by kernel_rfl))
 f321:=Tryz.func245.trans (congrArg some (by kernel_rfl))
 f322:=Tryz.func246.trans (congrArg some (by kernel_rfl))
 f337:=Tryz.func263.trans (congrArg some (by kernel_rfl))
 f338:=Tryz.func264.trans (congrArg some (by kernel_rfl))
 t0:=Tryz.underlying0
 a0:=Tryz.isAgg0
 z0:=Tryz.sizeOf0
 v0:=Tryz.zeroValue0
 t2:=Tryz.underlying2
 a2:=Tryz.isAgg2
 z2:=Tryz.sizeOf2
 v2:=Tryz.zeroValue2
 t3:=Tryz.underlying3
 a3:=Tryz.isAgg3
 z3:=Tryz.sizeOf3
 v3:=Tryz.zeroValue3
 t4:=Tryz.underlying4
 a4:=Tryz.isAgg4
 z4:=Tryz.sizeOf4
 v4:=Tryz.zeroValue4
 t5:=Tryz.underlying5
 a5:=Tryz.isAgg5
 z5:=Tryz.sizeOf5
 v5:=Tryz.zeroValue5
 t9:=Tryz.underlying9
 a9:=Tryz.isAgg9
 z9:=Tryz.sizeOf9
 v9:=Tryz.zeroValue9
 t20:=Tryz.underlying20
 a20:=Tryz.isAgg20
 z20:=Tryz.sizeOf20
 v20:=Tryz.zeroValue20
 t21:=Tryz.underlying21
 a21:=Tryz.isAgg21
 z21:=Tryz.sizeOf21
 v21:=Tryz.zeroValue21
 t37:=Tryz.underlying262
 a37:=Tryz.isAgg262
 z37:=Tryz.sizeOf262
 v37:=Tryz.zeroValue262
 t46:=Tryz.underlying154
 a46:=Tryz.isAgg154
 z46:=Tryz.sizeOf154
 v46:=Tryz.zeroValue154
 t51:=Tryz.underlying206
 a51:=Tryz.isAgg206
 z51:=Tryz.sizeOf206
 v51:=Tryz.zeroValue206
 t53:=Tryz.underlying208
 a53:=Tryz.isAgg208
 z53:=Tryz.sizeOf208
 v53:=Tryz.zeroValue208
 t75:=Tryz.underlying33
 a75:=Tryz.isAgg33
 z75:=Tryz.sizeOf33
 v75:=Tryz.zeroValue33
 t85:=Tryz.underlying264
 a85:=Tryz.isAgg264
 z85:=Tryz.sizeOf264
 v85:=Tryz.zeroValue264
 t127:=Tryz.underlying263
 a127:=Tryz.isAgg263
 z127:=Tryz.sizeOf263
 v127:=Tryz.zeroValue263
 t143:=Tryz.underlying324
 a143:=Tryz.isAgg324
 z143:=Tryz.sizeOf324
 v143:=Tryz.zeroValue324
 t145:=Tryz.underlying326
 a145:=Tryz.isAgg326
 z145:=Tryz.sizeOf326
 v145:=Tryz.zeroValue326
 t167:=Tryz.underlying310
 a167:=Tryz.isAgg310
 z167:=Tryz.sizeOf310
 v167:=Tryz.zeroValue310
 t168:=Tryz.underlying313
 a168:=Tryz.isAgg313
 z168:=Tryz.sizeOf313
 v168:=Tryz.zeroValue313
 t171:=Tryz.underlying333
 a171:=Tryz.isAgg333
 z171:=Tryz.sizeOf333
 v171:=Tryz.zeroValue333
 t173:=Tryz.underlying335
 a173:=Tryz.isAgg335
 z173:=Tryz.sizeOf335
 v173:=Tryz.zeroValue335
 t175:=Tryz.underlying311
 a175:=Tryz.isAgg311
 z175:=Tryz.sizeOf311
 v175:=Tryz.zeroValue311
 t210:=Tryz.underlying322
 a210:=Tryz.isAgg322
 z210:=Tryz.sizeOf322
 v210:=Tryz.zeroValue322
 t212:=Tryz.underlying338
 a212:=Tryz.isAgg338
 z212:=Tryz.sizeOf338
 v212:=Tryz.zeroValue338
 t213:=Tryz.underlying339
 a213:=Tryz.isAgg339
 z213:=Tryz.sizeOf339
 t232:=Tryz.underlying340
 a232:=Tryz.isAgg340
 z232:=Tryz.sizeOf340
 v232:=Tryz.zeroValue340
 t233:=Tryz.underlying341
 a233:=Tryz.isAgg341
 z233:=Tryz.sizeOf341
 v233:=Tryz.zeroValue341
 g15:=by kernel_rfl
 g16:=by kernel_rfl
 g17:=by kernel_rfl
 g18:=by kernel_rfl
 g19:=by kernel_rfl
 t80:=Tryz.underlying170
 a80:=Tryz.isAgg170
 z80:=Tryz.sizeOf170
 v80:=Tryz.zeroValue170
 i0:=by kernel_rfl
 i2:=by kernel_rfl
 i3:=by kernel_rfl
 i4:=by kernel_rfl
 i5:=by kernel_rfl
 i9:=by kernel_rfl
 i20:=by kernel_rfl
 i21:=by kernel_rfl
 i37:=by kernel_rfl
 i46:=by kernel_rfl
 i51:=by kernel_rfl
 i53:=by kernel_rfl
 i75:=by kernel_rfl
 i80:=by kernel_rfl
 i85:=by kernel_rfl
 i127:=by kernel_rfl
 i143:=by kernel_rfl
 i145:=by kernel_rfl
 i167:=by kernel_rfl
 i168:=by kernel_rfl
 i171:=by kernel_rfl
 i173:=by kernel_rfl
 i175:=by kernel_rfl
 i210:=by kernel_rfl
 i212:=by kernel_rfl
 i232:=by kernel_rfl
 i233:=by kernel_rfl
 m15:=by kernel_rfl
 m16:=by kernel_rfl
 m17:=by kernel_rfl
 m18:=by kernel_rfl
 m19:=by kernel_rfl
 c0:=by kernel_rfl
 c2:=by kernel_rfl
 c3:=by kernel_rfl
 c4:=by kernel_rfl
 c5:=by kernel_rfl
 c9:=by kernel_rfl
 c20:=by kernel_rfl
 c21:=by kernel_rfl
 c37:=by kernel_rfl
 c46:=by kernel_rfl
 c51:=by kernel_rfl
 c53:=by kernel_rfl
 c75:=by kernel_rfl
 c80:=by kernel_rfl
 c85:=by kernel_rfl
 c127:=by kernel_rfl
 c143:=by kernel_rfl
 c145:=by kernel_rfl
 c167:=by kernel_rfl
 c168:=by kernel_rfl
 c171:=by kernel_rfl
 c173:=by kernel_rfl
 c175:=by kernel_rfl
 c210:=by kernel_rfl
 c212:=by kernel_rfl
 c213:=by kernel_rfl
 c232:=by kernel_rfl
 c233:=by kernel_rfl }
open Go.RowKit in
theorem Tryz.strconv_ParseInt_10_at64_ok (s:ByteArray) (hmax:s.size≤9223372036854775806) (v:Int) (h:Lib.parseIntB 64 s.data.toList=.ok v) (w:World) :
 Calls prog 194 #[.string s,.int .i64 10,.int .i64 64] w fun e w'=>e=.returned (.tuple #[.int .i64 v,.nilIface])/\(w'=w\/∃t,w'=Lib.bytesWorld w 5 t):=Any.strconv_ParseInt_10_at64_ok Tryz.laysC174 s hmax v h w
end Go.Proofs
namespace Go.Proofs.YthieaobjdpfcoaaGreatDoor
open Go.Proofs.Tryz (prog)
section
open Go.RowKit
theorem Z1 (c:UInt8) (n:Nat) (j:n<256):(c==UInt8.ofNat n)=decide ((c.toNat:Int)=(n:Int)):=by
 rw[Bool.eq_iff_iff]
 simp only[beq_iff_eq,decide_eq_true_eq]
 constructor
 ·rintro rfl;simp;omega
 ·intro h;apply UInt8.toNat_inj.1;simp;omega
theorem mX {a b:Bool}(h:a=b):Ending.returned (.bool a)=.returned (.bool b):=by rw[h]
theorem pY (c:UInt8) (w:World) :
 Calls prog 141 #[.int .u8 c.toNat] w fun e w'=>e=.returned (.bool (Lx.tV c))/\w'=w:=by
 have hb:Lx.tV c=(decide ((c.toNat:Int)=32)||decide ((c.toNat:Int)=9)||decide ((c.toNat:Int)=10)):=by
  have h:(c==32)=decide ((c.toNat:Int)=32):=Z1 c 32 (by decide)
  have k:(c==9)=decide ((c.toNat:Int)=9):=Z1 c 9 (by decide)
  have j:(c==10)=decide ((c.toNat:Int)=10):=Z1 c 10 (by decide)
  unfold Lx.tV;rw[h,k,j]
 have H:Hid _:=hb
 clear hb
 go_enter Tryz.func141,Tryz.ntmps141
 go_wp2
 all_goals go_ret
 all_goals (refine ⟨mX ?_,rfl⟩;rw[H.out,Bool.eq_iff_iff];simp<;>omega)
theorem zA (c:UInt8) (w:World) :
 Calls prog 143 #[.int .u8 c.toNat] w fun e w'=>e=.returned (.bool (Lx.inl c))/\w'=w:=by
 have H:Hid (Lx.inl c=!decide ((c.toNat:Int)=10)):=by
  have h:(c==10)=decide ((c.toNat:Int)=10):=Z1 c 10 (by decide)
  show _=_;unfold Lx.inl bne;rw[h]
 go_enter Tryz.func143,Tryz.ntmps143
 go_wp2
 all_goals go_ret
 all_goals (refine ⟨mX ?_,rfl⟩;rw[H.out,Bool.eq_iff_iff];simp<;>omega)
theorem jO (c:UInt8) (w:World) :
 Calls prog 144 #[.int .u8 c.toNat] w fun e w'=>e=.returned (.bool (Lx.gV c))/\w'=w:=by
 have H:Hid (Lx.gV c=(decide (48≤(c.toNat:Int))&&decide ((c.toNat:Int)≤57))):=by
  show _=_;unfold Lx.gV;congr 1<;>(rw[decide_eq_decide];omega)
 go_enter Tryz.func144,Tryz.ntmps144
 go_wp2
 all_goals go_ret
 all_goals (refine ⟨mX ?_,rfl⟩;rw[H.out,Bool.eq_iff_iff];simp<;>omega)
theorem Nr (c:UInt8):Lx.Cs c=((decide (97≤(c.toNat:Int))&&decide ((c.toNat:Int)≤122))||(decide (65≤(c.toNat:Int))&&decide ((c.toNat:Int)≤90))||decide ((c.toNat:Int)=95)):=by
 have h:(c==95)=decide ((c.toNat:Int)=95):=Z1 c 95 (by decide)
 unfold Lx.Cs;rw[h]
 have a:decide (97≤c.toNat)=decide (97≤(c.toNat:Int)):=by rw[decide_eq_decide];omega
 have b:decide (c.toNat≤122)=decide ((c.toNat:Int)≤122):=by rw[decide_eq_decide];omega
 have d:decide (65≤c.toNat)=decide (65≤(c.toNat:Int)):=by rw[decide_eq_decide];omega
 have e:decide (c.toNat≤90)=decide ((c.toNat:Int)≤90):=by rw[decide_eq_decide];omega
 rw[a,b,d,e]
theorem oH (c:UInt8) (w:World) :
 Calls prog 145 #[.int .u8 c.toNat] w fun e w'=>e=.returned (.bool (Lx.pH c))/\w'=w:=by
 have H:Hid _:=Nr c
 have h:Hid (Lx.pH c=(Lx.Cs c||Lx.gV c)):=rfl
 go_enter Tryz.func145,Tryz.ntmps145
 go_wp2_with (go_at_call 144;refine (jO _ _).mono ?_;rintro e w' ⟨rfl,rfl⟩)
 all_goals go_ret
 all_goals (refine ⟨mX ?_,rfl⟩;rw[h.out,H.out,Bool.eq_iff_iff];generalize Lx.gV c=d;cases d<;>simp<;>omega)
end
section
open Go.RowKit
abbrev bs (s:ByteArray):List UInt8:=s.data.toList
theorem Cn (s:ByteArray) (k:Nat) (h:k<s.size):(bs s)[k]?=some s[k]:=by
 rw[aN4 (by simpa using h)];rfl
theorem fP (s:ByteArray):(bs s).length=s.size:=by simp
theorem fN {k:IntKind}{a b:Int}(h:a=b):Ending.returned (.int k a)=.returned (.int k b):=by rw[h]
theorem Qh (s:ByteArray) (a:Nat) (w:World) (u:s.size≤1000000) (n:a≤s.size) :
 Calls prog 142 #[.string s,.int .i64 a,.func (.func 143) #[] #[]] w fun e w'=>e=.returned (.int .i64 (Lx.iE Lx.inl (bs s) a:Nat))/\w'=w:=by
 go_enter Tryz.func142,Tryz.ntmps142
 go_wp2
 go_loop [1] (fun i=>∃k:Nat,k≤s.size/\i=.int .i64 k/\Hid (Lx.iE Lx.inl (bs s) a=Lx.iE Lx.inl (bs s) k)) (fun i=>s.size-(intOf i).toNat)
 case atStart=>exact ⟨a,n,rfl,rfl⟩
 case round=>
  obtain ⟨k,r,rfl,h⟩:=hrel
  by_cases hlt:k<s.size
  ·have j:=Cn s k hlt
   have l:Hid _:=j
   clear j
   by_cases hp:Lx.inl s[k]=true
   ·go_wp2_with (go_at_call 143;refine (zA _ _).mono ?_;rintro e w' ⟨rfl,rfl⟩)
    go_round
    case rel=>exact ⟨k+1,by omega,by go_num,h.out.trans (Lx.uS l.out hp)⟩
    case measure=>simp[intOf];omega
   ·have c:Lx.inl s[k]=false:=by simpa using hp
    clear hp
    go_wp2_with (go_at_call 143;refine (zA _ _).mono ?_;rintro e w' ⟨rfl,rfl⟩)
    go_ret
    exact ⟨fN (by rw[h.out,Lx.yG l.out c]),rfl⟩
  ·go_wp2
   go_ret
   exact ⟨fN (by rw[h.out,Lx.uT (by rw[fP];omega)]),rfl⟩
theorem Ei (s:ByteArray) (a:Nat) (w:World) (u:s.size≤1000000) (n:a≤s.size) :
 Calls prog 142 #[.string s,.int .i64 a,.func (.func 144) #[] #[]] w fun e w'=>e=.returned (.int .i64 (Lx.iE Lx.gV (bs s) a:Nat))/\w'=w:=by
 go_enter Tryz.func142,Tryz.ntmps142
 go_wp2
 go_loop [1] (fun i=>∃k:Nat,k≤s.size/\i=.int .i64 k/\Hid (Lx.iE Lx.gV (bs s) a=Lx.iE Lx.gV (bs s) k)) (fun i=>s.size-(intOf i).toNat)
 case atStart=>exact ⟨a,n,rfl,rfl⟩
 case round=>
  obtain ⟨k,r,rfl,h⟩:=hrel
  by_cases hlt:k<s.size
  ·have j:=Cn s k hlt
   have l:Hid _:=j
   clear j
   by_cases hp:Lx.gV s[k]=true
   ·go_wp2_with (go_at_call 144;refine (jO _ _).mono ?_;rintro e w' ⟨rfl,rfl⟩)
    go_round
    case rel=>exact ⟨k+1,by omega,by go_num,h.out.trans (Lx.uS l.out hp)⟩
    case measure=>simp[intOf];omega
   ·have c:Lx.gV s[k]=false:=by simpa using hp
    clear hp
    go_wp2_with (go_at_call 144;refine (jO _ _).mono ?_;rintro e w' ⟨rfl,rfl⟩)
    go_ret
    exact ⟨fN (by rw[h.out,Lx.yG l.out c]),rfl⟩
  ·go_wp2
   go_ret
   exact ⟨fN (by rw[h.out,Lx.uT (by rw[fP];omega)]),rfl⟩
theorem Kv (s:ByteArray) (a:Nat) (w:World) (u:s.size≤1000000) (n:a≤s.size) :
 Calls prog 142 #[.string s,.int .i64 a,.func (.func 145) #[] #[]] w fun e w'=>e=.returned (.int .i64 (Lx.iE Lx.pH (bs s) a:Nat))/\w'=w:=by
 go_enter Tryz.func142,Tryz.ntmps142
 go_wp2
 go_loop [1] (fun i=>∃k:Nat,k≤s.size/\i=.int .i64 k/\Hid (Lx.iE Lx.pH (bs s) a=Lx.iE Lx.pH (bs s) k)) (fun i=>s.size-(intOf i).toNat)
 case atStart=>exact ⟨a,n,rfl,rfl⟩
 case round=>
  obtain ⟨k,r,rfl,h⟩:=hrel
  by_cases hlt:k<s.size
  ·have j:=Cn s k hlt
   have l:Hid _:=j
   clear j
   by_cases hp:Lx.pH s[k]=true
   ·go_wp2_with (go_at_call 145;refine (oH _ _).mono ?_;rintro e w' ⟨rfl,rfl⟩)
    go_round
    case rel=>exact ⟨k+1,by omega,by go_num,h.out.trans (Lx.uS l.out hp)⟩
    case measure=>simp[intOf];omega
   ·have c:Lx.pH s[k]=false:=by simpa using hp
    clear hp
    go_wp2_with (go_at_call 145;refine (oH _ _).mono ?_;rintro e w' ⟨rfl,rfl⟩)
    go_ret
    exact ⟨fN (by rw[h.out,Lx.yG l.out c]),rfl⟩
  ·go_wp2
   go_ret
   exact ⟨fN (by rw[h.out,Lx.uT (by rw[fP];omega)]),rfl⟩
end
section
open Go.RowKit
theorem F5 (s:ByteArray) (a:Nat) (w:World) (J:s.size≤1000000) (Q:a≤s.size) :
 Calls prog 97 #[.string s,.int .i64 a] w fun e w'=>e=.returned (.int .i64 (Lx.fO (bs s) a:Nat))/\w'=w:=by
 go_enter Tryz.func97,Tryz.ntmps97
 go_wp2
 go_loop [1] (fun i=>∃k:Nat,k≤s.size/\i=.int .i64 k/\Hid (Lx.fO (bs s) a=Lx.fO (bs s) k)) (fun i=>s.size-(intOf i).toNat)
 case atStart=>exact ⟨a,Q,rfl,rfl⟩
 case round=>
  obtain ⟨k,U,rfl,l⟩:=hrel
  by_cases hlt:k<s.size
  ·have u:Hid _:=Cn s k hlt
   by_cases hb:Lx.tV s[k]=true
   ·go_wp2_with (go_at_call 141;refine (pY s[k] _).mono ?_;rintro e w' ⟨rfl,rfl⟩)
    go_round
    case rel=>exact ⟨k+1,by omega,by go_num,l.out.trans (Lx.J7 u.out hb)⟩
    case measure=>simp[intOf];omega
   ·have r:Lx.tV s[k]=false:=by simpa using hb
    clear hb
    by_cases c:(s[k].toNat:Int)=35
    ·have D:Hid ((bs s)[k]?=some 35):=by
      rw[Hid,u.out];congr 1;apply UInt8.toNat_inj.1;show _=35;omega
     have j:=Lx.Pt (p:=Lx.inl) (s:=bs s) (k:=k) (by rw[fP];omega)
     rw[fP] at j
     have O:=Lx.wY D.out
     have n:Hid _:=c
     clear c
     go_wp2_with (first|(go_at_call 141;refine (pY s[k] _).mono ?_;rintro e w' ⟨rfl,rfl⟩;have c:=n.out)|(go_at_call 142;refine (Qh s k _ J (by omega)).mono ?_;rintro e w' ⟨rfl,rfl⟩))
     go_round
     case rel=>exact ⟨_,j.2,rfl,l.out.trans (Lx.zY D.out)⟩
     case measure=>simp[intOf];omega
    ·have y:s[k]≠35:=fun h=>c (by rw[h];rfl)
     have I:Hid _:=y
     clear y
     go_wp2_with (first|(go_at_call 141;refine (pY s[k] _).mono ?_;rintro e w' ⟨rfl,rfl⟩))
     go_ret
     exact ⟨fN (by rw[l.out,Lx.Kk u.out r I.out]),rfl⟩
  ·go_wp2
   go_ret
   exact ⟨fN (by rw[l.out,Lx.Dw (by rw[fP];omega)]),rfl⟩
end
end Go.Proofs.YthieaobjdpfcoaaGreatDoor
namespace Go.Proofs
open Tryz (prog)
open Go.Shelf
def Tryz.laysM316_ren:Go.Shelf.Ren:=⟨fun|316=>147|n=>n,fun|9=>9|3=>3|4=>4|37=>262|0=>0|127=>263|5=>5|n=>n,fun|n=>n⟩
theorem Tryz.laysM316:Go.Proofs.LaysM.n316 prog Tryz.laysM316_ren:={
 mixed:=by kernel_rfl
 f316:=Tryz.func147.trans (congrArg some (by kernel_rfl))
 t0:=Tryz.underlying0
 a0:=Tryz.isAgg0
 z0:=Tryz.sizeOf0
 v0:=Tryz.zeroValue0
 t3:=Tryz.underlying3
 a3:=Tryz.isAgg3
 z3:=Tryz.sizeOf3
 v3:=Tryz.zeroValue3
 t4:=Tryz.underlying4
 a4:=Tryz.isAgg4
 z4:=Tryz.sizeOf4
 v4:=Tryz.zeroValue4
 t9:=Tryz.underlying9
 a9:=Tryz.isAgg9
 z9:=Tryz.sizeOf9
 v9:=Tryz.zeroValue9
 t37:=Tryz.underlying262
 a37:=Tryz.isAgg262
 z37:=Tryz.sizeOf262
 v37:=Tryz.zeroValue262
 t127:=Tryz.underlying263
 a127:=Tryz.isAgg263
 z127:=Tryz.sizeOf263
 v127:=Tryz.zeroValue263
 t5:=Tryz.underlying5
 a5:=Tryz.isAgg5
 z5:=Tryz.sizeOf5
 v5:=Tryz.zeroValue5
 i0:=by kernel_rfl
 i3:=by kernel_rfl
 i4:=by kernel_rfl
 i5:=by kernel_rfl
 i9:=by kernel_rfl
 i37:=by kernel_rfl
 i127:=by kernel_rfl }
open Go.RowKit in
theorem Tryz.stringslite_Clone (s:ByteArray) (w:World) (hlim:s.size≤281474976710656) :
 Calls prog 147 #[.string s] w fun e w'=>e=.returned (.string s)/\Below w.heap.size w w':=Any.stringslite_Clone Tryz.laysM316 s w hlim
def Tryz.lays99_ren:Go.Shelf.Ren:=⟨fun|99=>146|206=>193|n=>n,fun|9=>9|4=>4|3=>3|n=>n,fun|n=>n⟩
theorem Tryz.lays99:Go.Proofs.Lays.n99 prog Tryz.lays99_ren:={
 mixed:=by kernel_rfl
 f99:=Tryz.func146.trans (congrArg some (by kernel_rfl))
 f206:=Tryz.func193.trans (congrArg some (by kernel_rfl))
 t3:=Tryz.underlying3
 a3:=Tryz.isAgg3
 z3:=Tryz.sizeOf3
 v3:=Tryz.zeroValue3
 t4:=Tryz.underlying4
 a4:=Tryz.isAgg4
 z4:=Tryz.sizeOf4
 v4:=Tryz.zeroValue4
 t9:=Tryz.underlying9
 a9:=Tryz.isAgg9
 z9:=Tryz.sizeOf9
 v9:=Tryz.zeroValue9 }
open Go.RowKit Go.Lib in
theorem Tryz.strings_HasPrefix (s p:ByteArray) (w:World) :
 Calls prog 146 #[.string s,.string p] w fun e w'=>e=.returned (.bool (Lib.hasPrefix s.data.toList p.data.toList))/\w'=w:=Any.strings_HasPrefix Tryz.lays99 s p w
end Go.Proofs
namespace Go.Proofs.YthieaobjdpfcoaaGreatDoor
open Go.Proofs.Tryz (prog)
section
open Go.RowKit
def fV (m:List UInt8):Value:=.string ⟨m.toArray⟩
def lP (w:World):Prop:=∀i,i<21->w.cell? ⟨0,i,none⟩=some (fV (Lx.marks.getD i []))
theorem Ms (kind len n:Nat) (w:World) (s:kind≤3) (r:len≤1000000) (u:n≤600) :
 Calls prog 99 #[.int .i64 kind,.int .i64 len,.int .i64 n] w fun e w'=>e=.returned (.int .i64 (Lx.Mn kind len n:Nat))/\w'=w:=by
 by_cases h:kind=0
 ·subst h
  go_enter Tryz.func99,Tryz.ntmps99
  go_wp2
  go_ret
  exact ⟨rfl,rfl⟩
 ·have l:((kind:Int)==0)=false:=by simp;omega
  have j:¬(kind:Int)=0:=by omega
  by_cases h4:kind=2
  ·subst h4
   by_cases h5:18<len
   ·go_enter Tryz.func99,Tryz.ntmps99
    go_wp2
    go_ret
    exact ⟨fN (by rw[Lx.Mn,if_neg (by decide),if_pos ⟨rfl,h5⟩];rfl),rfl⟩
   ·by_cases h6:600≤n
    all_goals
     go_enter Tryz.func99,Tryz.ntmps99
     go_wp2
     go_ret
     exact ⟨fN (by rw[Lx.Mn,if_neg (by decide),if_neg (fun h=>h5 h.2)];first|(rw[if_pos h6];rfl)|(rw[if_neg h6];rfl)),rfl⟩
  ·have k:((kind:Int)==2)=false:=by simp;omega
   have c:¬(kind:Int)=2:=by omega
   by_cases h6:600≤n
   all_goals
    go_enter Tryz.func99,Tryz.ntmps99
    go_wp2
    go_ret
    exact ⟨fN (by rw[Lx.Mn,if_neg h,if_neg (fun h=>h4 h.1)];first|(rw[if_pos h6];rfl)|(rw[if_neg h6];rfl)),rfl⟩
def MV:Array Value:=(Lx.marks.map fV).toArray
theorem Ez {w:World}(r:lP w):(loadVar 215 ⟨0,0,none⟩).run prog w=.ok (.agg MV) w:=by
 have s:=run_loadCells_list (P:=prog) w ⟨0,0,none⟩ (Lx.marks.map fV) (fun j v n=>by
  have c:(⟨0,0,none⟩:Addr).add j=⟨0,j,none⟩:=by unfold Addr.add;split<;>simp_all
  have l:j<21:=by
   have:=(aO7.1 n).1;simpa [Lx.marks] using this
  rw[c,r j l,<-n]
  simp[List.getD,Lx.marks.getElem?_eq_getElem (show j<Lx.marks.length from l)])
 have h:(isAgg 215).run prog w=.ok true w:=by kernel_rfl
 have hsz:(sizeOf 215).run prog w=.ok 21 w:=by kernel_rfl
 have k:(loadCells ⟨0,0,none⟩ 21).run prog w=.ok (Lx.marks.map fV).toArray w:=s
 unfold loadVar
 rw[Sem.run_bind,h]
 simp only[Result.andThen,if_true,Sem.run_bind,hsz,k]
 rfl
theorem Tb (w:World):(Instr.index 215 (.agg MV) (.int .i64 0)).run prog w=.ok (fV (Lx.marks.getD 0 [])) w:=by kernel_rfl
theorem Ta (w:World):(Instr.index 215 (.agg MV) (.int .i64 1)).run prog w=.ok (fV (Lx.marks.getD 1 [])) w:=by kernel_rfl
theorem Qo (w:World):(Instr.index 215 (.agg MV) (.int .i64 2)).run prog w=.ok (fV (Lx.marks.getD 2 [])) w:=by kernel_rfl
theorem ix3 (w:World):(Instr.index 215 (.agg MV) (.int .i64 3)).run prog w=.ok (fV (Lx.marks.getD 3 [])) w:=by kernel_rfl
theorem Mk (w:World):(Instr.index 215 (.agg MV) (.int .i64 4)).run prog w=.ok (fV (Lx.marks.getD 4 [])) w:=by kernel_rfl
theorem Lb (w:World):(Instr.index 215 (.agg MV) (.int .i64 5)).run prog w=.ok (fV (Lx.marks.getD 5 [])) w:=by kernel_rfl
theorem Jf (w:World):(Instr.index 215 (.agg MV) (.int .i64 6)).run prog w=.ok (fV (Lx.marks.getD 6 [])) w:=by kernel_rfl
theorem Gg (w:World):(Instr.index 215 (.agg MV) (.int .i64 7)).run prog w=.ok (fV (Lx.marks.getD 7 [])) w:=by kernel_rfl
theorem Fu (w:World):(Instr.index 215 (.agg MV) (.int .i64 8)).run prog w=.ok (fV (Lx.marks.getD 8 [])) w:=by kernel_rfl
theorem ix9 (w:World):(Instr.index 215 (.agg MV) (.int .i64 9)).run prog w=.ok (fV (Lx.marks.getD 9 [])) w:=by kernel_rfl
theorem aT1 (w:World):(Instr.index 215 (.agg MV) (.int .i64 10)).run prog w=.ok (fV (Lx.marks.getD 10 [])) w:=by kernel_rfl
theorem aT0 (w:World):(Instr.index 215 (.agg MV) (.int .i64 11)).run prog w=.ok (fV (Lx.marks.getD 11 [])) w:=by kernel_rfl
theorem aS9 (w:World):(Instr.index 215 (.agg MV) (.int .i64 12)).run prog w=.ok (fV (Lx.marks.getD 12 [])) w:=by kernel_rfl
theorem aS8 (w:World):(Instr.index 215 (.agg MV) (.int .i64 13)).run prog w=.ok (fV (Lx.marks.getD 13 [])) w:=by kernel_rfl
theorem aS7 (w:World):(Instr.index 215 (.agg MV) (.int .i64 14)).run prog w=.ok (fV (Lx.marks.getD 14 [])) w:=by kernel_rfl
theorem aS6 (w:World):(Instr.index 215 (.agg MV) (.int .i64 15)).run prog w=.ok (fV (Lx.marks.getD 15 [])) w:=by kernel_rfl
theorem aS5 (w:World):(Instr.index 215 (.agg MV) (.int .i64 16)).run prog w=.ok (fV (Lx.marks.getD 16 [])) w:=by kernel_rfl
theorem aS4 (w:World):(Instr.index 215 (.agg MV) (.int .i64 17)).run prog w=.ok (fV (Lx.marks.getD 17 [])) w:=by kernel_rfl
theorem aS3 (w:World):(Instr.index 215 (.agg MV) (.int .i64 18)).run prog w=.ok (fV (Lx.marks.getD 18 [])) w:=by kernel_rfl
theorem aS2 (w:World):(Instr.index 215 (.agg MV) (.int .i64 19)).run prog w=.ok (fV (Lx.marks.getD 19 [])) w:=by kernel_rfl
theorem aS1 (w:World):(Instr.index 215 (.agg MV) (.int .i64 20)).run prog w=.ok (fV (Lx.marks.getD 20 [])) w:=by kernel_rfl
theorem Bc (k:Nat) (c:k<21) (w:World):(Instr.index 215 (.agg MV) (.int .i64 k)).run prog w=.ok (fV (Lx.marks.getD k [])) w:=by
 match k,c with
 | 0,_=>exact Tb w
 | 1,_=>exact Ta w
 | 2,_=>exact Qo w
 | 3,_=>exact ix3 w
 | 4,_=>exact Mk w
 | 5,_=>exact Lb w
 | 6,_=>exact Jf w
 | 7,_=>exact Gg w
 | 8,_=>exact Fu w
 | 9,_=>exact ix9 w
 | 10,_=>exact aT1 w
 | 11,_=>exact aT0 w
 | 12,_=>exact aS9 w
 | 13,_=>exact aS8 w
 | 14,_=>exact aS7 w
 | 15,_=>exact aS6 w
 | 16,_=>exact aS5 w
 | 17,_=>exact aS4 w
 | 18,_=>exact aS3 w
 | 19,_=>exact aS2 w
 | 20,_=>exact aS1 w
 | k+21,h=>omega
theorem zL (s:ByteArray) (a b:Nat):bs (s.extract a b)=((bs s).drop a).take (b-a):=by
 show (s.extract a b).data.toList=_
 rw[ByteArray.data_extract,Array.toList_extract]
theorem Yp (s:ByteArray) (a:Nat):bs (s.extract a s.size)=(bs s).drop a:=by
 rw[zL s a _,List.take_of_length_le (by simp)]
theorem tN (s mb:ByteArray) (a:Nat) (b:Bool) (w:World) (h:(bs mb).isPrefixOf ((bs s).drop a)=b) :
 Calls prog 146 #[.string (s.extract a s.size),.string mb] w fun e w'=>e=.returned (.bool b)/\w'=w:=by
 refine (Tryz.strings_HasPrefix (s.extract a s.size) mb w).mono ?_
 rintro e w' ⟨rfl,rfl⟩
 exact ⟨by rw[<-h,<-Yp];rfl,rfl⟩
theorem Ey (k:Nat) (h:k<21):Lx.marks.drop k=Lx.marks.getD k []::Lx.marks.drop (k+1):=by
 have c:=h
 rw[aP4 c,iO,aN4 c];rfl
theorem Ll (k:Nat) (h:k<21):0<(Lx.marks.getD k []).length:=by
 have:∀k:Fin 21,0<(Lx.marks.getD k.val []).length:=by decide
 exact this ⟨k,h⟩
theorem Hq (u:List UInt8) (c:UInt8) (h:u.head?=some c) (hd:Lx.gV c=false) (j:Lx.pH c=false):Lx.rd u=if Lx.mk u=0 then (0,0) else (3,Lx.mk u):=by
 cases u with
 | nil=>simp at h
 | cons x r=>simp at h;subst h;rw[Lx.mN,hd,j];rfl
theorem G4 (s:ByteArray) (a:Nat) (h:a<s.size):((bs s).drop a).head?=some s[a]:=by
 rw[List.head?_drop];exact Cn s a h
theorem cM {ops:Array Oper}{rest:List Oper}{o:Oper}{a:Act}{w:World}{Q:Exit->Act->World->Prop}(hgd:o.guard=none) (ty:TypeId) (x:Operand) (ho:o.op=.load ty x)
    (ad:Addr) (hx:a.eval x=.pointer (some ad)) (v:Value) (hl:(loadVar ty ad).run prog w=.ok v w) (h:wpList prog ops Q rest (a.put o.dst v) w):wpList prog ops Q (o::rest) a w:=
 wpList_plain hgd fun K hK=>by
  unfold Oper.wp execOp
  simp only[ho,hx,Instr.loadAt,Instr.sureAddr,Sem.run_bind,Sem.run_pure,Result.andThen_ok,hl]
  exact hK _ _ h
theorem Ks (s:ByteArray) (a:Nat) (w:World) (Y:s.size≤1000000) (Q:a<s.size) (O:lP w) (hd:Lx.gV s[a]=false) (I:Lx.pH s[a]=false) :
 Calls prog 98 #[.string s,.int .i64 a] w fun e w'=>e=.returned (.tuple #[.int .i64 (Lx.rd ((bs s).drop a)).1,.int .i64 ((a+(Lx.rd ((bs s).drop a)).2:Nat):Int)])/\w'=w:=by
 have J:=Ez O
 clear O
 go_enter Tryz.func98,Tryz.ntmps98
 go_wp2_with (first|(refine cM rfl 215 (.global 0) rfl ⟨0,0,none⟩ rfl (.agg MV) J ?_;clear J)|(go_at_call 144;refine (jO s[a] _).mono ?_;rintro e w' ⟨rfl,rfl⟩)|(go_at_call 145;refine (oH s[a] _).mono ?_;rintro e w' ⟨rfl,rfl⟩))
 go_loop [25] (fun i=>∃k:Nat,k≤21/\i=.int .i64 k/\Hid (Lx.mk ((bs s).drop a)=Lx.oD (Lx.marks.drop k) ((bs s).drop a))) (fun i=>21-(intOf i).toNat)
 case atStart=>exact ⟨0,by omega,rfl,rfl⟩
 case round=>
  obtain ⟨k,Z,rfl,D⟩:=hrel
  by_cases hlt:k<21
  ·obtain ⟨mb,n⟩:∃mb:ByteArray,mb=⟨(Lx.marks.getD k []).toArray⟩:=⟨_,rfl⟩
   have U:∀w,(Instr.index 215 (.agg MV) (.int .i64 k)).run prog w=.ok (.string mb) w:=by
    intro w;rw[n];exact Bc k hlt w
   have l:Hid (bs mb=Lx.marks.getD k []):=by
    show _=_;rw[n]
   clear n
   have j:=Ll k hlt
   have hlen:mb.size=(Lx.marks.getD k []).length:=by rw[<-l.out];exact (fP mb).symm
   have h:=Ey k hlt
   have c:=Hq _ _ (G4 s a Q) hd I
   by_cases hp:(bs mb).isPrefixOf ((bs s).drop a)=true
   ·have u:Lx.mk ((bs s).drop a)=mb.size:=by
     rw[D.out,h,Lx.oD,<-l.out,if_pos hp,fP]
    have X:mb.size≤s.size-a:=by
     have:=(List.isPrefixOf_iff_prefix.1 hp).length_le;rw[fP,List.length_drop,fP] at this;exact this
    have H:Hid (Lx.rd ((bs s).drop a)=(3,mb.size)):=by
     show _=_;rw[c,u,if_neg (by omega)]
    clear c u h j hlen
    go_wp2_with (go_at_call 146;refine (tN s mb a true _ hp).mono ?_;rintro e w' ⟨rfl,rfl⟩)
    go_ret2
    exact ⟨by rw[H.out];simp,rfl⟩
   ·have y:(bs mb).isPrefixOf ((bs s).drop a)=false:=Bool.eq_false_iff.2 hp
    have H:Hid (Lx.mk ((bs s).drop a)=Lx.oD (Lx.marks.drop (k+1)) ((bs s).drop a)):=by
     show _=_;rw[D.out,h,Lx.oD,<-l.out,y];rfl
    clear c h j hlen hp
    go_wp2_with (go_at_call 146;refine (tN s mb a false _ y).mono ?_;rintro e w' ⟨rfl,rfl⟩)
    go_round
    case rel=>exact ⟨k+1,by omega,by go_num,H⟩
    case measure=>simp[intOf];omega
  ·have r:k=21:=by omega
   subst r
   have c:=Hq _ _ (G4 s a Q) hd I
   have H:Hid (Lx.rd ((bs s).drop a)=(0,0)):=by
    show _=_;rw[c,D.out];rfl
   clear c
   go_wp2
   go_ret2
   exact ⟨by rw[H.out];simp,rfl⟩
theorem Qa (s:ByteArray) (a:Nat) (w:World) (j:s.size≤1000000) (k:a<s.size) (l:lP w) :
 Calls prog 98 #[.string s,.int .i64 a] w fun e w'=>e=.returned (.tuple #[.int .i64 (Lx.rd ((bs s).drop a)).1,.int .i64 ((a+(Lx.rd ((bs s).drop a)).2:Nat):Int)])/\w'=w:=by
 have c:(bs s).drop a=s[a]::(bs s).drop (a+1):=by
  rw[aP4 (by rw[fP];exact k)];rfl
 by_cases hd:Lx.gV s[a]=true
 ·have H:Hid (Lx.rd ((bs s).drop a)=(2,Lx.wh Lx.gV ((bs s).drop a))):=by
   show _=_;rw[c,Lx.mN,if_pos hd]
  clear c
  go_enter Tryz.func98,Tryz.ntmps98
  go_wp2_with (first|(go_at_call 144;refine (jO s[a] _).mono ?_;rintro e w' ⟨rfl,rfl⟩)|(go_at_call 142;refine (Ei s a _ j (by omega)).mono ?_;rintro e w' ⟨rfl,rfl⟩))
  go_ret2
  exact ⟨by rw[H.out];rfl,rfl⟩
 ·have h:Lx.gV s[a]=false:=by simpa using hd
  by_cases hw:Lx.pH s[a]=true
  ·have H:Hid (Lx.rd ((bs s).drop a)=(1,Lx.wh Lx.pH ((bs s).drop a))):=by
    show _=_;rw[c,Lx.mN,if_neg hd,if_pos hw]
   clear c hd
   go_enter Tryz.func98,Tryz.ntmps98
   go_wp2_with (first|(go_at_call 144;refine (jO s[a] _).mono ?_;rintro e w' ⟨rfl,rfl⟩)|(go_at_call 145;refine (oH s[a] _).mono ?_;rintro e w' ⟨rfl,rfl⟩)|(go_at_call 142;refine (Kv s a _ j (by omega)).mono ?_;rintro e w' ⟨rfl,rfl⟩))
   go_ret2
   exact ⟨by rw[H.out];rfl,rfl⟩
  ·exact Ks s a w j k l h (by simpa using hw)
end
end Go.Proofs.YthieaobjdpfcoaaGreatDoor
