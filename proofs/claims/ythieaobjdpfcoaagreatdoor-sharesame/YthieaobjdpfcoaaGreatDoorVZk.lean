import Derived.Test.YthieaobjdpfcoaaGreatDoorVZi
set_option maxRecDepth 100000
set_option maxHeartbeats 8000000
namespace Go.Proofs.YthieaobjdpfcoaaGreatDoor
section
open Go.RowKit Px
namespace Sx
open Nx (Nt Sp asks bH get put iH eA cR)
open Ew (bM Up rS)
open Fw (wA X4 Ur)
theorem aO3 (ad:Option Addr) (b h n cap:Nat) (i:Int) (k:0≤i) (l:i<n) (j:0<n->ad=some ⟨b,h,none⟩) (w:World):(Instr.indexAt 22 (.slice ad n cap) (.int .i64 i)).run Tryz.prog w=.ok (.pointer (some ⟨b,h+i.toNat,none⟩)) w:=by
 obtain rfl:=j (by omega)
 rw[aY6 _ _ _ _ _ _ _ (by kernel_rfl),if_pos ⟨by omega,by omega⟩]
 have e:(sizeOf (Tryz.prog.elem 22)).run Tryz.prog w=.ok 1 w:=by kernel_rfl
 rw[e]
 simp[Result.andThen,Addr.add]
section
variable {P:Nat->Prop}{B:Nat}{w:World}{sb m Pn:Nat}{nums:List Int}{g:Sg}{c:Sv}
theorem yY {h:Sp}(s:SM P B w sb m nums g c) (O:m≤100000) (Q:c.nm<m) (r:N5 h) (k:Int) :
    ∃w' c',(Instr.mapUpdate 58 (.map (some c.bm)) (wA h) (.int .i64 k)).run Tryz.prog w=.ok () w'/\SM P B w' sb m nums { g with made:=fun x=>if Lk x h=true then some k else g.made x } c'/\bM P w w':=by
 obtain ⟨f,J,y⟩:=s.md
 obtain ⟨w',D,l,j⟩:=J.put stepLaw Tryz.underlying58 (by unfold maxLen;omega) (wF r) (.int .i64 k)
 obtain ⟨I,u⟩:=s.putM (mk:=fun x=>if Lk x h=true then some k else g.made x) l (fun x hx=>by
  by_cases e:x=h
  ·subst e
   rw[Gm.pQ _ (stepLaw.key (wF hx)),if_pos ((nV _ _).2 rfl)];rfl
  ·rw[Gm.kT _ _ (fun n=>e (Rs hx r n)),if_neg (fun n=>e ((nV _ _).1 n))]
   exact y x hx) j (by split<;>omega)
 exact ⟨w',_,D,I,u⟩
theorem Uw (y:Inv Pn g) (I:g.things≤100000) {s:Sp}(n:eA (Pn:Int) nums.length s=0) (D:nums.length≤100000):N5 (jY nums g.there s):=by
 have hd:=Nx.sD n
 have J:=Nx.Yj n
 have r:∀p∈asks s,jF (get g.there p):=fun p r=>by
  have:=aX6.1 hd.2 p r
  unfold cR at this
  simp only[Bool.and_eq_true,decide_eq_true_eq] at this
  have:=y.tr p this.1 this.2
  unfold jF;omega
 have z:∀x,(¬s.code=1->x=0)->s.code≠1->jF x:=fun x h e=>by rw[h e];unfold jF;omega
 have u:jF ((nums.idxOf (get nums s.a):Nat):Int):=by have:=List.idxOf_le_length (a:=get nums s.a) (l:=nums);unfold jF;omega
 have j:(([s.a,s.b,s.c].drop (if s.code=1 then 1 else (asks s).length)).any (· != 0))=false:=by
  unfold eA at n
  rw[if_neg (by omega),if_neg (fun x=>x hd)] at n
  by_cases a3:s.code=1/\¬(0≤s.a/\s.a<nums.length)
  ·rw[if_pos a3] at n;omega
  rw[if_neg a3] at n
  by_cases a4:([s.a,s.b,s.c].drop (if s.code=1 then 1 else (asks s).length)).any (· != 0)=true
  ·rw[if_pos a4] at n;omega
  ·exact Bool.eq_false_iff.2 a4
 have k:jF 0:=by unfold jF;omega
 unfold N5 jY
 refine ⟨by show jF s.code;unfold jF;omega,k,?_,?_,?_⟩
 ·show jF (if s.code=1 then _ else _)
  split
  ·exact u
  ·rename_i c1
   rw[if_neg c1] at j
   rcases mF s with e|e|e|e
   ·simp[e] at j
    simp[bL,e,j,k]
   all_goals
    simp only[bL,e]
    simp
    exact r _ (by rw[e];simp)
 ·by_cases c1:s.code=1
  ·have e:=rT c1
   rw[if_pos c1] at j
   simp at j
   simp[bL,e,j,k]
  ·rw[if_neg c1] at j
   rcases mF s with e|e|e|e
   ·simp[e] at j
    simp[bL,e,j,k]
   ·simp[e] at j
    simp[bL,e,j,k]
   all_goals
    simp only[bL,e]
    simp
    exact r _ (by rw[e];simp)
 ·by_cases c1:s.code=1
  ·have e:=rT c1
   rw[if_pos c1] at j
   simp at j
   simp[bL,e,j,k]
  ·rw[if_neg c1] at j
   rcases mF s with e|e|e|e
   ·simp[e] at j
    simp[bL,e,j,k]
   ·simp[e] at j
    simp[bL,e,j,k]
   ·simp[e] at j
    simp[bL,e,j,k]
   ·simp only[bL,e]
    simp
    exact r _ (by rw[e];simp)
structure TI (P:Nat->Prop) (B:Nat) (w Y:World) (sb q q5 m:Nat) (nums:List Int) (g:Sg) (c:Sv) (s:Sp) (h0 h1 h2 h3 h4:Int):Prop where
 bel:Below w.heap.size w Y
 sm:SM P B Y sb m nums g c
 b1:Y.heap[q]?=some (.cells #[.pointer (some ⟨sb,0,none⟩)] 53 (0,0))
 b2:Y.heap[q+1]?=some (.cells #[.int .i64 s.code,.int .i64 s.dst,.int .i64 s.a,.int .i64 s.b,.int .i64 s.c] 38 (0,0))
 b5:Y.heap[q5]?=some (.cells #[.int .i64 h0,.int .i64 h1,.int .i64 h2,.int .i64 h3,.int .i64 h4] 38 (0,0))
 nq:q=w.heap.size/\q+1<q5
theorem TI.set {Y:World}{q k:Nat}{s:Sp}{u I r y D:Int}(h:TI P B w Y sb q k m nums g c s u I r y D) (j:Nat) (x:Int) {O l1 l2 Q J:Int}(U:[Value.int .i64 u,.int .i64 I,.int .i64 r,.int .i64 y,.int .i64 D].set j (.int .i64 x)=[.int .i64 O,.int .i64 l1,.int .i64 l2,.int .i64 Q,.int .i64 J]) (hB:∀b,P b->b<w.heap.size):TI P B w (Y.setCell ⟨k,j,none⟩ (.int .i64 x)) sb q k m nums g c s O l1 l2 Q J:=by
 have n:∀b,b≠k->(Y.setCell ⟨k,j,none⟩ (.int .i64 x)).heap[b]?=Y.heap[b]?:=fun b hb=>Below.heap_setCell _ _ _ _ hb
 have X:=h.nq
 refine ⟨h.bel.setCell (p:=⟨k,j,none⟩) (by show w.heap.size≤k;omega) _,h.sm.carry (fun b hb=>n b fun e=>by have:=hB b hb;omega) (fun b hb _=>n b fun e=>?_) (by simp[World.setCell]) (fun _ h=>h) (fun b hb=>by simp[World.setCell];exact h.sm.up.2 b hb),by rw[n _ (by omega)];exact h.b1,by rw[n _ (by omega)];exact h.b2,?_,X⟩
 ·have:=(h.sm.up.2 sb h.sm.pb.1).1
  have:=hB sb h.sm.pb.1
  omega
 ·have:=cH (l:=[Value.int .i64 u,.int .i64 I,.int .i64 r,.int .i64 y,.int .i64 D]) h.b5 j (.int .i64 x)
  rw[U] at this
  exact this
theorem TI.next {Y Y':World}{q q5:Nat}{s:Sp}{h0 h1 h2 h3 h4:Int}(h:TI P B w Y sb q q5 m nums g c s h0 h1 h2 h3 h4) (hb:Below Y.heap.size Y Y'):TI P B w Y' sb q q5 m nums g c s h0 h1 h2 h3 h4:=
 ⟨h.bel.trans (hb.mono h.bel.size),h.sm.below hb,aD hb h.b1,aD hb h.b2,aD hb h.b5,h.nq⟩
def Ou (P:Nat->Prop) (B:Nat) (w w':World) (sb m:Nat) (nums:List Int) (g:Sg):Prop:=∃c,SM P B w' sb m nums g c/\bM P w w'
theorem Dj (h:SM P B w sb m nums g c) (hI:Inv Pn g) (hm:m<100000) {s:Sp}(hs:eA (Pn:Int) nums.length s=0) (az:Pn≤4000) (bf:nums.length≤4000) :
    Calls Tryz.prog 43 #[.pointer (some ⟨sb,0,none⟩),wA s] w fun e w'=>e=.returned (.int .i64 (dQ nums g s))/\Hid (Ou P B w w' sb (m+1) nums (eX nums g s)):=by
 obtain ⟨U,hU⟩:∃U,U=w.alloc (.cells #[.pointer (some ⟨sb,0,none⟩)] 53):=⟨_,rfl⟩
 obtain ⟨W,hW⟩:∃W,W=U.alloc (.cells #[.int .i64 s.code,.int .i64 s.dst,.int .i64 s.a,.int .i64 s.b,.int .i64 s.c] 38):=⟨_,rfl⟩
 obtain ⟨q,hq⟩:∃q,q=w.heap.size:=⟨_,rfl⟩
 have sU:U.heap.size=q+1:=by rw[hU,hq];simp
 have sW:W.heap.size=q+1+1:=by rw[hW];simp[sU]
 have b1:Below w.heap.size w U:=by rw[hU];exact aL _ _
 have b2:Below U.heap.size U W:=by rw[hW];exact aL _ _
 have bW:=aQ b1 b2
 have k1:W.heap[q]?=some (.cells #[.pointer (some ⟨sb,0,none⟩)] 53 (0,0)):=aD b2 (by rw[hU,hq];exact aX w _)
 have k2:W.heap[q+1]?=some (.cells #[.int .i64 s.code,.int .i64 s.dst,.int .i64 s.a,.int .i64 s.b,.int .i64 s.c] 38 (0,0)):=by rw[<-sU,hW];exact aX U _
 have hc:=Nx.Yj hs
 have hd:=Nx.sD hs
 have hr:∀p∈asks s,0≤p/\p<Pn:=fun p hp=>by
  have:=aX6.1 hd.2 p hp
  unfold cR at this
  simpa only[Bool.and_eq_true,decide_eq_true_eq] using this
 obtain ⟨s0,s1,s2,s3,s4⟩:=Ur k2
 have av:=aF k1 0 (u:=.pointer (some ⟨sb,0,none⟩)) rfl
 have HH:Hid (SM P B w sb m nums g c/\SM P B W sb m nums g c/\Below w.heap.size w W/\W.heap[q]?=some (.cells #[.pointer (some ⟨sb,0,none⟩)] 53 (0,0))/\W.heap[q+1]?=some (.cells #[.int .i64 s.code,.int .i64 s.dst,.int .i64 s.a,.int .i64 s.b,.int .i64 s.c] 38 (0,0))/\q=w.heap.size/\W.heap.size=q+1+1):=⟨h,h.below bW,bW,k1,k2,hq,sW⟩
 have HI:Hid (Inv Pn g/\eA (Pn:Int) nums.length s=0/\Pn≤4000/\nums.length≤4000/\m<100000/\∀p∈asks s,0≤p/\p<Pn):=⟨hI,hs,az,bf,hm,hr⟩
 rw[hU] at hW
 clear hU sU sW b1 b2 k1 k2
 obtain ⟨D,sd,l,r,se⟩:=s
 by_cases c2:D=2
 ·have af:=hr l (by unfold asks;rw[if_pos (.inl c2)];simp)
  have aj:=(h.below bW).drew
  obtain ⟨bT,br,bn,bu,-⟩:=pU aj.rt (fun e=>by have:=hI.tl;rw[e] at this;simp at this;omega)
  obtain ⟨-,-,d2,-,-,-,-⟩:=aj.cells
  rw[bn] at d2
  obtain ⟨k,rfl⟩:∃k:Nat,l=k:=⟨l.toNat,by omega⟩
  have bc:k<g.there.length:=by rw[hI.tl];omega
  have ck:=bu k bc
  have ai:=Nx.Q7 (some ⟨bT,0,none⟩) bT 0 g.there.length br k bc (fun _=>rfl)
  rw[aX1] at ai
  have hT:dQ nums g ⟨D,sd,(k:Int),r,se⟩=g.there.getD k 0:=by unfold dQ;rw[if_pos c2,Nx.Yb]
  have HG:Hid (Ou P B w W.drew sb (m+1) nums (eX nums g ⟨D,sd,(k:Int),r,se⟩)):=by
   unfold Hid Ou eX
   rw[if_pos c2]
   exact ⟨c,aj.more (by omega) (by omega),bM.of_below bW.drew⟩
  rw[hT]
  obtain ⟨y,hy⟩:∃y,y=g.there.getD k 0:=⟨_,rfl⟩
  obtain ⟨n,hn⟩:∃n,n=g.there.length:=⟨_,rfl⟩
  rw[<-hy] at ck ⊢
  rw[<-hn] at d2 ai
  have t1:(D==2)=true:=by simp[c2]
  have ch:W.drew.cell? ⟨q,0,none⟩=some (.pointer (some ⟨sb,0,none⟩)):=av
  have cg:W.drew.cell? ⟨q+1,2,none⟩=some (.int .i64 (k:Int)):=s2
  clear h hI hs az bf hm hr hc hd bW aj bn bu bc hT hy hn c2 af HH HI
  go_enter Tryz.func43,Tryz.ntmps43
  go_upto_region 1 with fail
  rw[<-hW,<-hq]
  clear hW hq
  go_upto_region 2 with fail
  go_region
  all_goals
   go_wp2_with fail
   go_ret
   exact ⟨rfl,HG⟩
 ·have au:=Uw hI (by have:=h.few;omega) hs (by omega)
  have t2:(D==2)=false:=by simp[c2]
  obtain ⟨h0,h1,J,h3,h4,ag⟩:∃h0 h1 J h3 h4,jY nums g.there ⟨D,sd,l,r,se⟩=⟨h0,h1,J,h3,h4⟩:=⟨_,_,_,_,_,rfl⟩
  obtain ⟨u0,u1,u2,u3,u4,Z⟩:∃u0 u1 u2 u3 u4,bL (get g.there) ⟨D,sd,l,r,se⟩=⟨u0,u1,u2,u3,u4⟩:=⟨_,_,_,_,_,rfl⟩
  have bj:(h0,h1,J,h3,h4)=(u0,(0:Int),(if D=1 then (nums.idxOf (get nums l):Int) else u2),u3,u4):=by
   have e:=ag
   unfold jY at e
   rw[Z] at e
   simp only[Sp.mk.injEq] at e
   have e0:D=u0:=by have:=congrArg Sp.code Z;exact this
   simp only[Prod.mk.injEq]
   obtain ⟨x0,x1,x2,x3,x4⟩:=e
   exact ⟨by rw[<-x0,e0],x1.symm,x2.symm,x3.symm,x4.symm⟩
  simp only[Prod.mk.injEq] at bj
  have bw:Calls Tryz.prog 45 #[wA ⟨D,sd,l,r,se⟩,.func (.func 75) #[] #[.pointer (some ⟨q,0,none⟩)]] W fun e w'=>e=.returned (wA ⟨u0,u1,u2,u3,u4⟩)/\Hid (Below W.heap.size W w'):=by
   rw[<-Z]
   exact F2 (.inl rfl) fun V hV p hp=>(O0 (HH.out.2.1.below hV) (aN hV av) (by have:=hr p hp;rw[hI.tl];exact this)).mono fun e w' ⟨he,hw⟩=>⟨he,by rw[hw];exact Below.refl _ _⟩
  have HW:Hid (h0=u0/\h1=0/\(J=if D=1 then (nums.idxOf (get nums l):Int) else u2)/\h3=u3/\h4=u4):=bj
  rw[ag] at au
  have HN:Hid (N5 ⟨h0,h1,J,h3,h4⟩/\jY nums g.there ⟨D,sd,l,r,se⟩=⟨h0,h1,J,h3,h4⟩/\¬D=2):=⟨au,ag,c2⟩
  clear h hI hs az bf hm hr hc hd bW au ag Z bj
  go_enter Tryz.func43,Tryz.ntmps43
  go_upto_region 1 with fail
  rw[<-hW,<-hq]
  clear hW hq
  go_upto_region 4 with (go_at_call 45;refine bw.mono ?_;rintro e w1 ⟨rfl,bi⟩;clear bw)
  obtain ⟨X,hX⟩:∃X,X=w1.alloc (.cells #[.int .i64 u0,.int .i64 u1,.int .i64 u2,.int .i64 u3,.int .i64 u4] 38):=⟨_,rfl⟩
  obtain ⟨I,bh⟩:∃I,I=w1.heap.size:=⟨_,rfl⟩
  have bZ:Below w1.heap.size w1 X:=by rw[hX];exact aL _ _
  have kz:X.heap[I]?=some (.cells #[.int .i64 u0,.int .i64 u1,.int .i64 u2,.int .i64 u3,.int .i64 u4] 38 (0,0)):=by rw[hX,bh];exact aX _ _
  rw[<-bh,<-hX]
  have ar:∀b,P b->b<w.heap.size:=fun b hb=>(HH.out.1.up.2 b hb).2
  have ak:Hid (TI P B w X sb q I m nums g c ⟨D,sd,l,r,se⟩ u0 u1 u2 u3 u4):=by
   have g1:=HH.out.2.2.2.2.2
   have g2:=bi.out.size
   have am:=aQ bi.out bZ
   exact ⟨HH.out.2.2.1.trans (am.mono HH.out.2.2.1.size),HH.out.2.1.below am,aD am HH.out.2.2.2.1,aD am HH.out.2.2.2.2.1,kz,g1.1,by omega⟩
  have HT:Hid (TI P B w (X.setCell ⟨I,1,none⟩ (.int .i64 0)) sb q I m nums g c ⟨D,sd,l,r,se⟩ u0 0 u2 u3 u4):=ak.out.set 1 0 rfl ar
  obtain ⟨-,x1,-,-,-⟩:=Ur ak.out.b5
  have xf:=aG ak.out.b5 1
  clear bh bZ kz hX bi s0 s1 s2 s3 s4 av
  go_upto_region 5 with fail
  obtain ⟨O,aw⟩:∃O,O=X.setCell ⟨I,1,none⟩ (.int .i64 0):=⟨_,rfl⟩
  rw[<-aw] at HT
  rw[<-aw]
  have al:Hid (∀b,P b->b<w.heap.size):=ar
  clear aw x1 xf ak ar
  obtain ⟨s0,-,s2,-,-⟩:=Ur HT.out.b2
  by_cases c1:D=1
  case' neg=>
   have t1:(D==1)=false:=by simp[c1]
   have Q:Hid (TI P B w O sb q I m nums g c ⟨D,sd,l,r,se⟩ h0 h1 J h3 h4):=by
    have e2:=HW.out.2.2.1
    rw[if_neg c1] at e2
    rw[HW.out.1,HW.out.2.1,e2,HW.out.2.2.2.1,HW.out.2.2.2.2]
    exact HT.out
   clear c1
   obtain ⟨Y,hY⟩:∃Y,Y=O:=⟨_,rfl⟩
   subst hY
   clear HT s2
  case' pos=>
   have t1:(D==1)=true:=by simp[c1]
   have af:0≤l/\l<nums.length:=by
    have hs:=HI.out.2.1
    unfold eA at hs
    rw[if_neg (show ¬(D<1\/17<D\/D=3) by omega),if_neg (fun x=>x (Nx.sD HI.out.2.1))] at hs
    by_cases a3:D=1/\¬(0≤l/\l<nums.length)
    ·rw[if_pos a3] at hs;omega
    ·exact Classical.byContradiction fun h=>a3 ⟨c1,h⟩
   have j:=HT.out.next (Below.refl _ O).drew
   obtain ⟨ah,bN,ab,ae,ay,bg,bp⟩:=j.sm.nu
   obtain ⟨-,-,-,-,d4,-,-⟩:=j.sm.cells
   rw[ay] at d4
   have ai:=aO3 ah bN ab nums.length ae l af.1 af.2 (fun h=>(bg h).1)
   have cn:=bp l.toNat (by omega)
   rw[show nums.getD l.toNat 0=get nums l by unfold Nx.get;rw[if_pos af.1]] at cn
   have an:get nums l∈nums:=by
    unfold Nx.get
    rw[if_pos af.1,iO,aN3 (by omega)]
    exact aY1 _
   have ad:=I1 (w:=O.drew) (get nums l) (by have:=j.sm.nu;rw[ay] at this;exact this) (by have:=HI.out.2.2.2.1;omega)
   rw[if_pos an] at ad
   obtain ⟨xn,ax⟩:∃xn,xn=get nums l:=⟨_,rfl⟩
   have HE:Hid (J=(nums.idxOf xn:Int)):=by unfold Hid;rw[HW.out.2.2.1,if_pos c1,ax]
   rw[<-ax] at cn ad
   have ap:=aF j.b1 0 (u:=.pointer (some ⟨sb,0,none⟩)) rfl
   obtain ⟨-,-,be,-,-⟩:=Ur j.b2
   obtain ⟨-,-,e2,-,-⟩:=Ur j.b5
   have ef:=aG j.b5 2
   obtain ⟨ln,bo⟩:∃ln,ln=nums.length:=⟨_,rfl⟩
   rw[<-bo] at ad d4 ai
   have Q:Hid (TI P B w (O.drew.setCell ⟨I,2,none⟩ (.int .i64 J)) sb q I m nums g c ⟨D,sd,l,r,se⟩ h0 h1 J h3 h4):=by
    have:=j.set 2 J rfl al.out
    rw[HW.out.1,HW.out.2.1,HW.out.2.2.2.1,HW.out.2.2.2.2]
    exact this
   rw[<-HE.out] at ad
   have cb:O.drew.cell? ⟨q,0,none⟩=some (.pointer (some ⟨sb,0,none⟩))/\O.drew.cell? ⟨sb,4,none⟩=some (.slice ah ln ae)/\O.drew.cell? ⟨q+1,2,none⟩=some (.int .i64 l)/\O.drew.cell? ⟨bN,ab+l.toNat,none⟩=some (.int .i64 xn):=⟨ap,d4,be,cn⟩
   have ao:(O.drew.setCell ⟨I,2,none⟩ (.int .i64 J)).cell? ⟨q,0,none⟩=some (.pointer (some ⟨sb,0,none⟩))/\(O.drew.setCell ⟨I,2,none⟩ (.int .i64 J)).cell? ⟨sb,4,none⟩=some (.slice ah ln ae)/\(O.drew.setCell ⟨I,2,none⟩ (.int .i64 J)).cell? ⟨q+1,2,none⟩=some (.int .i64 l)/\(O.drew.setCell ⟨I,2,none⟩ (.int .i64 J)).cell? ⟨bN,ab+l.toNat,none⟩=some (.int .i64 xn):=by
    have hq:=HT.out.nq
    have cj:=al.out sb j.sm.pb.1
    have cm:=(j.sm.up.2 sb j.sm.pb.1).1
    have ci:=(bg (by omega)).2
    refine ⟨?_,?_,?_,?_⟩
    ·rw[aY4 (Below.heap_setCell _ _ _ _ (by show q≠I;omega))];exact ap
    ·rw[aY4 (Below.heap_setCell _ _ _ _ (by show sb≠I;omega))];exact d4
    ·rw[aY4 (Below.heap_setCell _ _ _ _ (by show q+1≠I;omega))];exact be
    ·rw[aY4 (Below.heap_setCell _ _ _ _ (by show bN≠I;omega))];exact cn
   have ce:(O.setCell ⟨I,2,none⟩ (.int .i64 J)).drew.cell? ⟨q,0,none⟩=some (.pointer (some ⟨sb,0,none⟩))/\(O.setCell ⟨I,2,none⟩ (.int .i64 J)).drew.cell? ⟨sb,4,none⟩=some (.slice ah ln ae)/\(O.setCell ⟨I,2,none⟩ (.int .i64 J)).drew.cell? ⟨q+1,2,none⟩=some (.int .i64 l)/\(O.setCell ⟨I,2,none⟩ (.int .i64 J)).drew.cell? ⟨bN,ab+l.toNat,none⟩=some (.int .i64 xn):=ao
   have Q:Hid (TI P B w (O.setCell ⟨I,2,none⟩ (.int .i64 J)).drew sb q I m nums g c ⟨D,sd,l,r,se⟩ h0 h1 J h3 h4):=Q
   clear j ay bg bp af an ax bo c1 ap d4 be cn ao
   go_upto_region 6 with fail
   go_region_held3 (fun w'=>w'.cell? ⟨q,0,none⟩=some (.pointer (some ⟨sb,0,none⟩))/\w'.cell? ⟨sb,4,none⟩=some (.slice ah ln ae)/\w'.cell? ⟨q+1,2,none⟩=some (.int .i64 l)/\w'.cell? ⟨bN,ab+l.toNat,none⟩=some (.int .i64 xn)) (first|with_reducible exact ce|with_reducible exact cb|go_keep)
    (first
     | (go_at_call 76;refine ad.mono ?_;rintro e w5 ⟨rfl,cd⟩;obtain rfl:=cd.symm))
   obtain ⟨Y,hY⟩:∃Y,Y=(O.setCell ⟨I,2,none⟩ (.int .i64 J)).drew:=⟨_,rfl⟩
   rw[<-hY] at Q
   rw[<-hY]
   clear hY HT s0 s2
  all_goals
   cases hmk:g.made ⟨h0,h1,J,h3,h4⟩ with
   | some t=>
    have hT:dQ nums g ⟨D,sd,l,r,se⟩=t:=by unfold dQ;rw[if_neg HN.out.2.2,HN.out.2.1,hmk];rfl
    have HG:Hid (Ou P B w Y.drew sb (m+1) nums (eX nums g ⟨D,sd,l,r,se⟩)):=by
     have hm:=HI.out.2.2.2.2.1
     have hb:=(Q.out.next (Below.refl _ Y).drew)
     unfold Hid Ou eX
     rw[if_neg HN.out.2.2,HN.out.2.1,hmk]
     exact ⟨c,hb.sm.more (by omega) (by omega),bM.of_below hb.bel⟩
    have j:=Q.out.next (Below.refl _ Y).drew
    have aa:=j.sm.lookM HN.out.1
    rw[hmk] at aa
    have aa:(Instr.lookup 58 (.map (some c.bm)) (.agg #[.int .i64 h0,.int .i64 h1,.int .i64 J,.int .i64 h3,.int .i64 h4]) true).run Tryz.prog Y.drew=.ok (.tuple #[.int .i64 t,.bool true]) Y.drew:=aa
    obtain ⟨d0,-,-,-,-,-,-⟩:=j.sm.cells
    have bd:=aF j.b1 0 (u:=.pointer (some ⟨sb,0,none⟩)) rfl
    obtain ⟨e0,e1,e2,e3,e4⟩:=Ur j.b5
    have ba:Hid _:=hT
    clear j hmk hT Q
    go_upto_region 7 with fail
    go_region
    all_goals
     go_wp2_with fail
     go_ret
     exact ⟨by rw[ba.out];rfl,HG⟩
   | none=>
    have hT:dQ nums g ⟨D,sd,l,r,se⟩=g.things:=by unfold dQ;rw[if_neg HN.out.2.2,HN.out.2.1,hmk];rfl
    have cc:Hid (eX nums g ⟨D,sd,l,r,se⟩=⟨fun h=>if Lk h ⟨h0,h1,J,h3,h4⟩=true then some g.things else g.made h,g.copies,g.there,g.things+1,g.code⟩):=by
     unfold Hid eX
     rw[if_neg HN.out.2.2,HN.out.2.1,hmk]
     rfl
    have j:=Q.out.next (Below.refl _ Y).drew
    have aa:=j.sm.lookM HN.out.1
    rw[hmk] at aa
    have aa:(Instr.lookup 58 (.map (some c.bm)) (.agg #[.int .i64 h0,.int .i64 h1,.int .i64 J,.int .i64 h3,.int .i64 h4]) true).run Tryz.prog Y.drew=.ok (.tuple #[.int .i64 0,.bool false]) Y.drew:=aa
    obtain ⟨d0,-,-,-,-,-,-⟩:=j.sm.cells
    have bd:=aF j.b1 0 (u:=.pointer (some ⟨sb,0,none⟩)) rfl
    obtain ⟨e0,e1,e2,e3,e4⟩:=Ur j.b5
    have ca:=tI j.sm HI.out.2.2.2.2.1
    have ac:Hid (TI P B w Y.drew sb q I m nums g c ⟨D,sd,l,r,se⟩ h0 h1 J h3 h4):=j
    have ba:Hid _:=hT
    clear j hmk hT Q
    go_upto_region 7 with fail
    go_region
    all_goals
     go_upto_region 10 with (go_at_call 42;refine ca.mono ?_;rintro e w6 ⟨rfl,h6⟩;clear ca)
     clear d0 bd e0 e1 e2 e3 e4 aa
     have bb:∀b,¬P b->b<Y.drew.heap.size->w6.heap[b]?=Y.drew.heap[b]?:=fun b hb hl=>h6.out.2.block b hl hb
     have cf:=ac.out.nq
     have b1:w6.heap[q]?=some (.cells #[.pointer (some ⟨sb,0,none⟩)] 53 (0,0)):=by rw[bb q (fun h=>by have:=al.out q h;omega) (aB ac.out.b1)];exact ac.out.b1
     have b5:w6.heap[I]?=some (.cells #[.int .i64 h0,.int .i64 h1,.int .i64 J,.int .i64 h3,.int .i64 h4] 38 (0,0)):=by rw[bb I (fun h=>by have:=al.out I h;omega) (aB ac.out.b5)];exact ac.out.b5
     have bk:=h6.out.1.drew
     obtain ⟨w7,c7,bq,bz,bv⟩:=yY bk (by have:=HI.out.2.2.2.2.1;omega) (by have:=ac.out.sm.few;omega) HN.out.1 g.things
     have bq:(Instr.mapUpdate 58 (.map (some c.bm)) (.agg #[.int .i64 h0,.int .i64 h1,.int .i64 J,.int .i64 h3,.int .i64 h4]) (.int .i64 g.things)).run Tryz.prog w6.drew=.ok () w7:=bq
     obtain ⟨d0,-,-,-,-,-,-⟩:=bk.cells
     have bd:w6.drew.cell? ⟨q,0,none⟩=some (.pointer (some ⟨sb,0,none⟩)):=aF b1 0 rfl
     obtain ⟨e0,e1,e2,e3,e4⟩:=Ur (show w6.drew.heap[I]?=_ from b5)
     have HG:Hid (Ou P B w w7 sb (m+1) nums (eX nums g ⟨D,sd,l,r,se⟩)):=by
      unfold Hid Ou
      rw[cc.out]
      exact ⟨c7,bz,((bM.of_below (P:=P) ac.out.bel).trans h6.out.2 fun _ _ h=>h).drew.trans bv fun _ _ h=>h⟩
     clear bb b1 b5 bk bz bv h6 ac cf
     go_region
     all_goals
      go_wp2_with fail
      go_ret
      exact ⟨by rw[ba.out];rfl,HG⟩
end
attribute [-go_sem] Builtin.append_
theorem aM0 {P:Nat->Prop}{w w2 w3:World}{c:Nat}{a0 a1 l n a4:Value}(h:bM P w w2) (r:w.heap.size≤c) (k:w3=((((w2.setCell ⟨c,0,none⟩ a0).setCell ⟨c,1,none⟩ a1).setCell ⟨c,2,none⟩ l).setCell ⟨c,3,none⟩ n).setCell ⟨c,4,none⟩ a4):bM P w w3:=by
 have st:∀(W:World) (j:Nat) (u:Value),bM P w W->bM P w (W.setCell ⟨c,j,none⟩ u):=fun W j u h=>h.setCell (p:=⟨c,j,none⟩) (.inr r) u
 rw[k]
 exact st _ _ _ (st _ _ _ (st _ _ _ (st _ _ _ (st _ _ _ h))))
section
variable {P:Nat->Prop}{B:Nat}{w:World}{sb m Pn:Nat}{nums:List Int}{g:Sg}{c:Sv}
theorem SM.upP {w0:World}{P':Nat->Prop}(h:SM P' B w sb m nums g c) (hP:∀b,P' b->Up P w0 w b) (hB:B≤w0.heap.size) (hP0:∀b,P b->B≤b/\b<w0.heap.size) (hs:w0.heap.size≤w.heap.size):SM (Up P w0 w) B w sb m nums g c:=
 h.carry (fun _ _=>rfl) (fun _ _ _=>rfl) (aN4 _) hP fun b hb=>hb.elim (fun h=>⟨(hP0 b h).1,aO2 (hP0 b h).2 hs⟩) fun h=>⟨aO4 hB h.1,h.2⟩
theorem zQ {s:Sp}(h:SM P B w sb m nums g c) (Q:g.code.length<m) :
    ∃v5 w5 c',(Builtin.append_ #[24,24] 24 #[c.vC,.slice (some ⟨w.heap.size,0,none⟩) 1 1]).run Tryz.prog (w.alloc (.cells #[.int .i64 s.code,.int .i64 s.dst,.int .i64 s.a,.int .i64 s.b,.int .i64 s.c] 38))=.ok v5 w5/\(∃a n k,v5=.slice a n k)/\w5.heap[sb]?=w.heap[sb]?/\(∀d,d<w.heap.size->¬P d->w5.heap[d]?=w.heap[d]?)/\
     SM (Up P w (w5.setCell ⟨sb,5,none⟩ v5)) B (w5.setCell ⟨sb,5,none⟩ v5) sb m nums { g with code:=g.code++[s] } c'/\bM P w (w5.setCell ⟨sb,5,none⟩ v5):=by
 obtain ⟨i0,Y,y,I,r⟩:=aY8 Ew.Sj
 have hf:=h.few
 obtain ⟨v5,w5,U,j,l,_,D⟩:=run_append_own_at (P:=Tryz.prog) (w.alloc (.cells #[.int .i64 s.code,.int .i64 s.dst,.int .i64 s.a,.int .i64 s.b,.int .i64 s.c] 38)) 0 24 24 38 i0 _ 5 40 Tryz.underlying24 Y y I r rfl (by decide) c.vC g.code.length (g.code.flatMap rS) (h.rc.alloc _) ⟨w.heap.size,0,none⟩ 1 1 (rS s) rfl (Ew.eN w (rS s) _) (by intro u hu;simp[rS] at hu;rcases hu with rfl|rfl|rfl|rfl|rfl<;>rfl) (by unfold maxLen;omega) (by omega) (aP4 _)
 obtain ⟨a,k,hv⟩:=aP j
 obtain ⟨X,Z⟩:=h.addS (s:=s) (w0:=w.alloc (.cells #[.int .i64 s.code,.int .i64 s.dst,.int .i64 s.a,.int .i64 s.b,.int .i64 s.c] 38)) (aL _ _) j l (fun b hb=>by
  rcases D with e|e
  ·exact .inl (e.symm.trans hb)
  ·rw[hb] at e;injection e with e;exact .inr e) Q
 refine ⟨v5,w5,_,U,⟨_,_,_,hv⟩,?_,fun d hd O=>?_,X,Z⟩
 ·have J:=(h.up.2 _ h.pb.1).2
  rw[l.block sb (by simp;omega) fun e=>(h.pc sb e.symm).2.1 rfl,Below.heap_alloc _ _ _ J]
 ·rw[l.block d (by simp;omega) fun e=>O (h.pc d e.symm).1,Below.heap_alloc _ _ _ hd]
def zZ (P:Nat->Prop) (B:Nat) (w w':World) (sb m:Nat) (nums:List Int) (g:Sg):Prop:=∃c,SM (Up P w w') B w' sb m nums g c/\bM P w w'
theorem aG8 (h:SM P B w sb m nums g c) (hI:Inv Pn g) (hm:m+2<100000) {I y j D:Int}{k:Nat}(hs:eA (Pn:Int) nums.length ⟨I,k,y,j,D⟩=0) (bm:Pn≤4000) (ck:nums.length≤4000) :
    Calls Tryz.prog 23 #[.pointer (some ⟨sb,0,none⟩),.agg #[.int .i64 I,.int .i64 (k:Int),.int .i64 y,.int .i64 j,.int .i64 D]] w fun e w'=>e=.returned (.tuple #[])/\Hid (zZ P B w w' sb (m+2) nums (Sx.addS nums g ⟨I,k,y,j,D⟩)):=by
 obtain ⟨U,hU⟩:∃U,U=w.alloc (.cells #[.pointer (some ⟨sb,0,none⟩)] 53):=⟨_,rfl⟩
 obtain ⟨W,hW⟩:∃W,W=U.alloc (.cells #[.int .i64 I,.int .i64 (k:Int),.int .i64 y,.int .i64 j,.int .i64 D] 38):=⟨_,rfl⟩
 obtain ⟨q,hq⟩:∃q,q=w.heap.size:=⟨_,rfl⟩
 have sU:U.heap.size=q+1:=by rw[hU,hq];simp
 have b1:Below w.heap.size w U:=by rw[hU];exact aL _ _
 have b2:Below U.heap.size U W:=by rw[hW];exact aL _ _
 have bW:=aQ b1 b2
 have k1:W.heap[q]?=some (.cells #[.pointer (some ⟨sb,0,none⟩)] 53 (0,0)):=aD b2 (by rw[hU,hq];exact aX w _)
 have k2:W.heap[q+1]?=some (.cells #[.int .i64 I,.int .i64 (k:Int),.int .i64 y,.int .i64 j,.int .i64 D] 38 (0,0)):=by rw[<-sU,hW];exact aX U _
 obtain ⟨s0,s1,s2,s3,s4⟩:=Ur k2
 have am:=aF k1 0 (u:=.pointer (some ⟨sb,0,none⟩)) rfl
 have aw:=Dj (h.below bW) hI (by omega) hs bm ck
 obtain ⟨t,ht⟩:∃t,t=dQ nums g ⟨I,k,y,j,D⟩:=⟨_,rfl⟩
 obtain ⟨J,an⟩:∃J,J=eX nums g ⟨I,k,y,j,D⟩:=⟨_,rfl⟩
 have ah:=iN nums g ⟨I,k,y,j,D⟩
 have al:=tZ (nums:=nums) hI hs
 have cb:Inv Pn J:=by rw[an];exact tD hI
 rw[<-an] at ah al aw
 rw[<-ht] at al aw
 have hd:=(Nx.sD hs).1
 unfold cR at hd
 simp only[Bool.and_eq_true,decide_eq_true_eq] at hd
 have HP:Hid ((∀b,P b->B≤b/\b<w.heap.size)/\B≤w.heap.size):=⟨h.up.2,h.up.1⟩
 have HH:Hid (Below w.heap.size w W/\W.heap[q]?=some (.cells #[.pointer (some ⟨sb,0,none⟩)] 53 (0,0))/\W.heap[q+1]?=some (.cells #[.int .i64 I,.int .i64 (k:Int),.int .i64 y,.int .i64 j,.int .i64 D] 38 (0,0))/\q=w.heap.size):=⟨bW,k1,k2,hq⟩
 have HI:Hid (Inv Pn J/\J.there=g.there/\J.copies=g.copies/\J.code=g.code/\(0≤t/\t<J.things)/\k<Pn/\m+2<100000/\eA (Pn:Int) nums.length ⟨I,k,y,j,D⟩=0/\Pn≤4000):=⟨cb,ah.1,ah.2.1,ah.2.2,al,by omega,hm,hs,bm⟩
 have HE:Hid (Sx.addS nums g ⟨I,k,y,j,D⟩=if (k:Int)∈g.copies t then J else { wC J k t with code:=g.code++[kJ g t ⟨I,k,y,j,D⟩] }):=by
  unfold Hid Sx.addS
  rw[<-ht,<-an]
 rw[hU] at hW
 clear hU sU b1 b2 k1 k2 h hI hs bm ck hm ah al cb hd bW ht an
 go_enter Tryz.func23,Tryz.ntmps23
 go_upto_region 1 with fail
 rw[<-hW,<-hq]
 clear hW hq
 go_upto_region 2 with (go_at_call 43;refine aw.mono ?_;rintro e w1 ⟨rfl,hx⟩;clear aw)
 obtain ⟨c1,O,ax⟩:=hx.out
 have ar:∀b,P b->b<q:=fun b hb=>by have:=(HP.out.1 b hb).2;have:=HH.out.2.2.2;omega
 have k1:w1.heap[q]?=some (.cells #[.pointer (some ⟨sb,0,none⟩)] 53 (0,0)):=ax.heap HH.out.2.1 fun e=>by have:=ar q e;omega
 have k2:w1.heap[q+1]?=some (.cells #[.int .i64 I,.int .i64 (k:Int),.int .i64 y,.int .i64 j,.int .i64 D] 38 (0,0)):=ax.heap HH.out.2.2.1 fun e=>by have:=ar (q+1) e;omega
 clear s0 s1 s2 s3 s4 am hx
 obtain ⟨s0,s1,s2,s3,s4⟩:=Ur k2
 have am:=aF k1 0 (u:=.pointer (some ⟨sb,0,none⟩)) rfl
 have bn:jF t:=by have:=HI.out.2.2.2.2.1;have:=O.few;unfold jF;omega
 have bg:=O.lookC bn
 obtain ⟨a0,n0,br,-⟩:=(O.rowC t).form
 obtain ⟨-,d1,-,-,-,-,-⟩:=O.cells
 have r:=U0 (w:=w1) (k:Int) (O.rowC t).ints (by have:=O.lw t;have:=HI.out;omega)
 have HR:=O.rowC t
 rw[HI.out.2.2.1] at br r HR
 rw[br] at bg r HR
 obtain ⟨l0,bc⟩:∃l,l=(g.copies t).length:=⟨_,rfl⟩
 rw[<-bc] at bg r HR
 have HL:Hid (l0=(g.copies t).length/\iH 3 0 w1 (.slice a0 l0 n0) (g.copies t)):=⟨bc,HR⟩
 have Q:Hid (SM P B w1 sb (m+1) nums J c1/\bM P W w1/\w1.heap[q]?=some (.cells #[.pointer (some ⟨sb,0,none⟩)] 53 (0,0))/\w1.heap[q+1]?=some (.cells #[.int .i64 I,.int .i64 (k:Int),.int .i64 y,.int .i64 j,.int .i64 D] 38 (0,0))/\jF t):=⟨O,ax,k1,k2,bn⟩
 have HQ:Hid (∀b,P b->b<q):=ar
 clear O ax k1 k2 br bc HR ar bn
 by_cases hin:(k:Int)∈g.copies t
 ·have t1:decide ((k:Int)∈g.copies t)=true:=decide_eq_true hin
  rw[t1] at r
  have HF:Hid (zZ P B w w1 sb (m+2) nums (Sx.addS nums g ⟨I,k,y,j,D⟩)):=by
   have bf:bM P w w1:=(bM.of_below (P:=P) HH.out.1).trans Q.out.2.1 fun _ _ h=>h
   unfold Hid zZ
   rw[HE.out,if_pos hin]
   exact ⟨c1,(Q.out.1.more (by omega) (by have:=HI.out.2.2.2.2.2.2.1;omega)).upP (fun b hb=>.inl hb) HP.out.2 HP.out.1 bf.size,bf⟩
  clear hin t1
  go_wp2_with (go_at_call 44;refine r.mono ?_;rintro e w2 ⟨rfl,ac⟩;obtain rfl:=ac.symm)
  refine aY7 (results_none rfl _ _ _) rfl ⟨rfl,HF⟩
 ·have t1:decide ((k:Int)∈g.copies t)=false:=decide_eq_false hin
  rw[t1] at r
  have cq:Hid (¬(k:Int)∈g.copies t):=hin
  clear hin t1
  by_cases hl:0<l0
  case' neg=>
   obtain rfl:l0=0:=by omega
   have az:g.copies t=[]:=aR2.1 HL.out.1.symm
   have bq:Calls Tryz.prog 45 #[wA ⟨I,k,y,j,D⟩,.func (.func 46) #[] #[.pointer (some ⟨q,0,none⟩)]] w1 fun e w'=>e=.returned (wA (bL (mA g) ⟨I,k,y,j,D⟩))/\Hid (Below w1.heap.size w1 w'):=by
    have cg:mA J=mA g:=by funext p;unfold mA;rw[HI.out.2.1,HI.out.2.2.1]
    rw[<-cg]
    refine F2 (.inr rfl) fun V hV p hp=>?_
    have hr:0≤p/\p<Pn:=by
     have:=aX6.1 (Nx.sD HI.out.2.2.2.2.2.2.2.1).2 p hp
     unfold cR at this
     simpa only[Bool.and_eq_true,decide_eq_true_eq] using this
    have cx:=HI.out.1.tr p hr.1 hr.2
    have bf:=Q.out.1.few
    refine Om (Q.out.1.below hV) (aN hV am) (by rw[HI.out.1.tl];exact hr) (by unfold jF;omega) (fun e=>?_)
    have:=(HI.out.1.cp (get J.there p) p).2 ⟨hr,rfl⟩
    rw[e] at this
    cases this
   obtain ⟨x0,x1,x2,x3,x4,ao⟩:∃x0 x1 x2 x3 x4,bL (mA g) ⟨I,k,y,j,D⟩=⟨x0,x1,x2,x3,x4⟩:=⟨_,_,_,_,_,rfl⟩
   have hx1:(k:Int)=x1:=congrArg Sp.dst ao
   subst hx1
   have HX:Hid (kJ g t ⟨I,k,y,j,D⟩=⟨x0,k,x2,x3,x4⟩):=by
    unfold Hid kJ
    rw[if_pos az]
    exact ao
   rw[ao] at bq
   clear ao az
   go_upto_region 3 with (go_at_call 44;refine r.mono ?_;rintro e w2 ⟨rfl,ac⟩;obtain rfl:=ac.symm)
   go_upto_region 7 with (go_at_call 45;refine bq.mono ?_;rintro e w2 ⟨rfl,bk⟩;clear bq;have aa:=aD bk.out Q.out.2.2.2.1;obtain ⟨r0,r1,r2,r3,r4⟩:=Ur aa;have bi:=aG aa 0;have bu:=aG aa 1;have bp:=aG aa 2;have bb:=aG aa 3;have be:=aG aa 4)
   obtain ⟨X0,hX⟩:∃X,X=((((w2.setCell ⟨q+1,0,none⟩ (.int .i64 x0)).setCell ⟨q+1,1,none⟩ (.int .i64 (k:Int))).setCell ⟨q+1,2,none⟩ (.int .i64 x2)).setCell ⟨q+1,3,none⟩ (.int .i64 x3)).setCell ⟨q+1,4,none⟩ (.int .i64 x4):=⟨_,rfl⟩
   obtain ⟨y0,y1,y2,y3⟩:=X4 aa hX
   have bz:Below w1.heap.size w1 w2:=bk.out
   have ag:bM P w w2:=((bM.of_below (P:=P) HH.out.1).trans Q.out.2.1 fun _ _ h=>h).trans (bM.of_below (P:=P) bz) fun _ _ h=>h
   have aj:bM P w X0:=aM0 ag (by have:=HH.out.2.2.2;omega) hX
   rw[<-hX]
   clear hX
   obtain ⟨X,n⟩:∃X,X=X0:=⟨_,rfl⟩
   have Z:SM P B X sb (m+1) nums J c1:=by
    have hz:=Q.out.1.below bz
    have:SM P B X0 sb (m+1) nums J c1:=hz.carry (fun b hb=>y1 b (by have:=HQ.out b hb;omega)) (fun b hb _=>y1 b (by have:=(hz.up.2 sb hz.pb.1).1;have:=HQ.out sb hz.pb.1;omega)) (by omega) (fun _ h=>h) (fun b hb=>by rw[y3];exact hz.up.2 b hb)
    rw[n]
    exact this
   have kq:X.heap[q]?=some (.cells #[.pointer (some ⟨sb,0,none⟩)] 53 (0,0)):=by
    rw[n]
    show X0.heap[q]?=_
    rw[y1 q (by omega)]
    exact aD bz Q.out.2.2.1
   have ad:X.heap[q+1]?=some (.cells #[.int .i64 x0,.int .i64 (k:Int),.int .i64 x2,.int .i64 x3,.int .i64 x4] 38 (0,0)):=by
    rw[n]
    exact y0
   have ai:bM P w X:=by rw[n];exact aj
   rw[show X0=X from n.symm]
   clear n y0 y1 y2 y3 ag bz aj
   obtain ⟨v0,v2,v3,v4,ci,au⟩:∃v0 v2 v3 v4,Hid (kJ g t ⟨I,k,y,j,D⟩=⟨v0,k,v2,v3,v4⟩)/\X.heap[q+1]?=some (.cells #[.int .i64 v0,.int .i64 (k:Int),.int .i64 v2,.int .i64 v3,.int .i64 v4] 38 (0,0)):=⟨x0,x2,x3,x4,HX,ad⟩
   clear ad HX r0 r1 r2 r3 r4 bi bu bp bb be bk aa
  case' pos=>
   obtain ⟨bC,ct,ak,cc,-⟩:=pU HL.out.2 (fun e=>by have:=HL.out.1;rw[e] at this;simp at this;omega)
   simp only[Value.slice.injEq] at ak
   obtain ⟨rfl,-,rfl⟩:=ak
   have c0:w1.drew.cell? ⟨bC,0,none⟩=some (.int .i64 ((g.copies t).getD 0 0)):=cc 0 (by rw[<-HL.out.1];exact hl)
   have cn:=Nx.Q7 (some ⟨bC,0,none⟩) bC 0 l0 n0 0 hl (fun _=>rfl)
   obtain ⟨x,hx⟩:∃x,x=(g.copies t).getD 0 0:=⟨_,rfl⟩
   have HX:Hid (kJ g t ⟨I,k,y,j,D⟩=⟨2,k,x,0,0⟩):=by
    unfold Hid kJ
    rw[if_neg (fun e=>by have:=HL.out.1;rw[e] at this;simp at this;omega),hx]
    cases g.copies t<;>rfl
   rw[<-hx] at c0
   have e1:w1.drew.cell? ⟨q+1,1,none⟩=some (.int .i64 (k:Int)):=s1
   obtain ⟨f0,f1,f2,f3,f4⟩:=Ur (show w1.drew.heap[q+1]?=_ from Q.out.2.2.2.1)
   have bi:=aG Q.out.2.2.2.1 0
   have bu:=aG Q.out.2.2.2.1 1
   have bp:=aG Q.out.2.2.2.1 2
   have bb:=aG Q.out.2.2.2.1 3
   have be:=aG Q.out.2.2.2.1 4
   clear cc hx
   go_upto_region 6 with (go_at_call 44;refine r.mono ?_;rintro e w2 ⟨rfl,ac⟩;obtain rfl:=ac.symm)
   go_region
   go_upto_region 7 with fail
   obtain ⟨X0,hX⟩:∃X,X=((((w1.setCell ⟨q+1,0,none⟩ (.int .i64 2)).setCell ⟨q+1,1,none⟩ (.int .i64 (k:Int))).setCell ⟨q+1,2,none⟩ (.int .i64 x)).setCell ⟨q+1,3,none⟩ (.int .i64 0)).setCell ⟨q+1,4,none⟩ (.int .i64 0):=⟨_,rfl⟩
   obtain ⟨y0,y1,y2,y3⟩:=X4 Q.out.2.2.2.1 hX
   have bz:Below w1.heap.size w1 w1:=Below.refl _ _
   have ag:bM P w w1:=((bM.of_below (P:=P) HH.out.1).trans Q.out.2.1 fun _ _ h=>h).trans (bM.of_below (P:=P) bz) fun _ _ h=>h
   have aj:bM P w X0:=aM0 ag (by have:=HH.out.2.2.2;omega) hX
   rw[<-hX]
   clear hX
   obtain ⟨X,n⟩:∃X,X=X0.drew:=⟨_,rfl⟩
   have Z:SM P B X sb (m+1) nums J c1:=by
    have hz:=Q.out.1.below bz
    have:SM P B X0 sb (m+1) nums J c1:=hz.carry (fun b hb=>y1 b (by have:=HQ.out b hb;omega)) (fun b hb _=>y1 b (by have:=(hz.up.2 sb hz.pb.1).1;have:=HQ.out sb hz.pb.1;omega)) (by omega) (fun _ h=>h) (fun b hb=>by rw[y3];exact hz.up.2 b hb)
    rw[n]
    exact this.drew
   have kq:X.heap[q]?=some (.cells #[.pointer (some ⟨sb,0,none⟩)] 53 (0,0)):=by
    rw[n]
    show X0.heap[q]?=_
    rw[y1 q (by omega)]
    exact aD bz Q.out.2.2.1
   have ad:X.heap[q+1]?=some (.cells #[.int .i64 2,.int .i64 (k:Int),.int .i64 x,.int .i64 0,.int .i64 0] 38 (0,0)):=by
    rw[n]
    exact y0
   have ai:bM P w X:=by rw[n];exact aj.drew
   rw[show X0.drew=X from n.symm]
   clear n y0 y1 y2 y3 ag bz aj
   obtain ⟨v0,v2,v3,v4,ci,au⟩:∃v0 v2 v3 v4,Hid (kJ g t ⟨I,k,y,j,D⟩=⟨v0,k,v2,v3,v4⟩)/\X.heap[q+1]?=some (.cells #[.int .i64 v0,.int .i64 (k:Int),.int .i64 v2,.int .i64 v3,.int .i64 v4] 38 (0,0)):=⟨2,x,0,0,HX,ad⟩
   clear ad HX e1 f0 f1 f2 f3 f4 bi bu bp bb be c0 cn
  all_goals
   have ba:=nU Z HI.out.1 (by have:=HI.out.2.2.2.2.2.2.1;omega) HI.out.2.2.2.2.2.1 (by have:=HI.out.2.2.2.2.1;have:=Z.few;omega:0≤t/\t≤((m+1:Nat):Int))
   obtain ⟨-,n1,-,-,-⟩:=Ur au
   have nb:=aF kq 0 (u:=.pointer (some ⟨sb,0,none⟩)) rfl
   have ab:Hid (X.heap[q]?=some (.cells #[.pointer (some ⟨sb,0,none⟩)] 53 (0,0))/\X.heap[q+1]?=some (.cells #[.int .i64 v0,.int .i64 (k:Int),.int .i64 v2,.int .i64 v3,.int .i64 v4] 38 (0,0))/\bM P w X/\J.code.length≤m+1):=⟨kq,au,ai,Z.few.2.2.2.1⟩
   clear Z kq au ai s0 s1 s2 s3 s4 am d1 bg
   go_upto_region 8 with (go_at_call 47;refine ba.mono ?_;rintro e w3 ⟨rfl,ce⟩;clear ba)
   obtain ⟨c3,bv,ae⟩:=ce.out
   have av:¬P q/\¬P (q+1):=⟨fun e=>by have:=HQ.out _ e;omega,fun e=>by have:=HQ.out _ e;omega⟩
   have bo:=ae.heap ab.out.1 av.1
   have cm:=ae.heap ab.out.2.1 av.2
   have Y:=bv.drew
   obtain ⟨v5,w5,c5,ap,⟨a5,n5,k5,co⟩,af,ay,bh,bj⟩:=zQ (s:=⟨v0,k,v2,v3,v4⟩) Y (by show J.code.length<m+1+1;have:=ab.out.2.2.2;omega)
   obtain ⟨aC,nC,ak⟩:=aP Y.rc
   obtain ⟨-,-,-,-,-,z5,zf⟩:=Y.cells
   rw[ak] at ap z5
   subst co
   obtain ⟨lC,cf⟩:∃l,l=(wC J k t).code.length:=⟨_,rfl⟩
   rw[<-cf] at ap z5
   have cd:=aB bo
   have ch:¬Up P X w3 q:=fun e=>e.elim av.1 fun h=>by have:=aB ab.out.1;omega
   have b3:w3.drew.cell? ⟨q,0,none⟩=some (.pointer (some ⟨sb,0,none⟩)):=aF bo 0 rfl
   have cw:(w3.alloc (.cells #[.int .i64 v0,.int .i64 (k:Int),.int .i64 v2,.int .i64 v3,.int .i64 v4] 38)).drew.cell? ⟨q,0,none⟩=some (.pointer (some ⟨sb,0,none⟩)):=aN (aL w3 _) b3
   have cy:(w3.alloc (.cells #[.int .i64 v0,.int .i64 (k:Int),.int .i64 v2,.int .i64 v3,.int .i64 v4] 38)).drew.cell? ⟨sb,5,none⟩=some (.slice aC lC nC):=aN (aL w3 _) z5
   have cu:w5.cell? ⟨q,0,none⟩=some (.pointer (some ⟨sb,0,none⟩)):=by rw[aY4 (ay q cd ch)];exact b3
   have cz:w5.cell? ⟨sb,5,none⟩=some (.slice aC lC nC):=by rw[aY4 af];exact z5
   have cv:w5.frozen? ⟨sb,5,none⟩=false:=by
    have:=af.trans Y.hk
    exact aG this 5
   obtain ⟨m0,m1,m2,m3,m4⟩:=Ur (show w3.drew.heap[q+1]?=_ from cm)
   have cr:(Builtin.append_ #[24,24] 24 #[.slice aC lC nC,.slice (some ⟨w3.heap.size,0,none⟩) 1 1]).run Tryz.prog (w3.alloc (.cells #[.int .i64 v0,.int .i64 (k:Int),.int .i64 v2,.int .i64 v3,.int .i64 v4] 38)).drew=.ok (.slice a5 n5 k5) w5:=ap
   have HF:Hid (zZ P B w (w5.setCell ⟨sb,5,none⟩ (.slice a5 n5 k5)) sb (m+2) nums (Sx.addS nums g ⟨I,k,y,j,D⟩)):=by
    have ca:bM P w w3:=ab.out.2.2.1.trans ae fun _ _ h=>h
    have bw:bM P w (w5.setCell ⟨sb,5,none⟩ (.slice a5 n5 k5)):=ca.drew.trans bj fun b hb h=>h.elim id fun h=>by have:=ab.out.2.2.1.size;omega
    have hsz:=bj.size
    have cj:=ae.size
    have Z:=ab.out.2.2.1.size
    unfold Hid zZ
    rw[HE.out,if_neg cq.out,ci.out]
    have e:(wC J k t).code=g.code:=HI.out.2.2.2.1
    rw[e] at bh
    refine ⟨c5,bh.upP (fun b hb=>?_) HP.out.2 HP.out.1 bw.size,bw⟩
    rcases hb with (hb|hb)|hb
    ·exact .inl hb
    ·exact .inr ⟨aO4 Z hb.1,aO2 hb.2 hsz⟩
    ·exact .inr ⟨aO4 (aO4 Z cj) hb.1,hb.2⟩
   clear ce bv ae bo cm Y af ay bh bj ak zf cf cd ch av n1 nb ap
   go_region
   all_goals
    go_wp2_with fail
    go_end0
    exact ⟨rfl,HF⟩
end
end Sx
end
end Go.Proofs.YthieaobjdpfcoaaGreatDoor
