import Derived.Test.YthieaobjdpfcoaaGreatDoorUEze0
import Derived.Test.YthieaobjdpfcoaaGreatDoorUEzb
import Derived.Test.YthieaobjdpfcoaaGreatDoorUEz1
import Derived.Test.YthieaobjdpfcoaaGreatDoorUPcatch
import Derived.Test.YthieaobjdpfcoaaGreatDoorULaidU
import Derived.Test.YthieaobjdpfcoaaGreatDoorUEy1
import Derived.Test.YthieaobjdpfcoaaGreatDoorUEi
import Derived.Test.YthieaobjdpfcoaaGreatDoorUEk0
import Derived.Test.YthieaobjdpfcoaaGreatDoorUNtC
import Derived.Defers
import Derived.Recover
set_option maxRecDepth 100000
set_option maxHeartbeats 16000000
namespace Go.Proofs.YthieaobjdpfcoaaGreatDoor
section
open Go.RowKit Px
namespace Ew
open Px.Em (Kd Vr eQ eR jP Rg cX)
open Nx (Nt Sp)
section
variable {A P:Nat->Prop}{w:World}{ns:List bE}{kb E:Nat}{k:Kd}
theorem Wa {ls:List (List (St 6))}:Em.tick ls k=Em.rI k.net.places ls (aU k 1):=rfl
theorem xU {ls:List (List (St 6))}{v:Value}(hV:gP A w (aM A w 6) ls v) (y:∀l∈ls,vW 6 l/\rO ns 6 l/\rN 6 l) (hE:E+1+(ls.map (iG 6)).sum<1000000) (bw:ls.length≤100000) (h:eK E ns P w kb k) (hR:Ro A P w) :
    Calls Tryz.prog 71 #[.pointer (some ⟨kb,0,none⟩),v] w (fJ (E+1+(ls.map (iG 6)).sum) ns P kb w k (Em.tick ls k) (fun _=>.tuple #[])):=by
 obtain ⟨ad,gd,cap,rfl,bp,hg,bj⟩:=hV.len
 have J:0<ls.length->A gd:=fun Q=>by
  obtain ⟨xs,hr,_⟩:=hV
  exact hr.2 gd (by rw[(hg Q).1];rfl)
 obtain ⟨n,hn⟩:∃n,n=ls.length:=⟨_,rfl⟩
 rw[<-hn] at hg J bw ⊢
 obtain ⟨p,Q⟩:∃p,p=k.net.places:=⟨_,rfl⟩
 obtain ⟨Z,hZ⟩:∃Z,Z=Em.tick ls k:=⟨_,rfl⟩
 have HZ:Hid (Z=Em.rI p ls (aU k 1)):=by rw[Hid,hZ,Q,Wa]
 rw[<-hZ]
 obtain ⟨EE,aw⟩:∃EE,EE=E+1+(ls.map (iG 6)).sum:=⟨_,rfl⟩
 rw[<-aw] at hE ⊢
 have HE:Hid (EE=E+1+(ls.map (iG 6)).sum/\EE<1000000):=⟨aw,hE⟩
 have HP:Hid (∀b,P b->b<w.heap.size):=h.2.2
 have HH:Hid (Ro A P w/\n=ls.length/\∀l∈ls,vW 6 l/\rO ns 6 l/\rN 6 l):=⟨hR,hn,y⟩
 have HG:Hid (0<n->ad=some ⟨gd,0,none⟩/\A gd):=fun Q=>⟨(hg Q).1,J Q⟩
 have bz:Hid (∀(i:Nat) (r:List (St 6)),ls[i]?=some r->∃u,w.cell? ⟨gd,i,none⟩=some u/\aM A w 6 r u):=bj
 have az:=uX (x:=1) h (by omega) ⟨by omega,by omega⟩
 rw[<-Q] at az
 have bk:Hid (k.net.places≤(aU k 1).net.places):=by show k.net.places≤k.net.places+1;omega
 clear hV h hR hn hZ Q hg J bj bp y aw hE
 go_enter Tryz.func71,Tryz.ntmps71
 go_upto_region 2 with (go_at_call 114;refine az.mono ?_;rintro e w1 ⟨rfl,X⟩)
 have A1:Hid (At (E+1) ns P kb w k w1 (aU k 1)):=⟨X.out.1,X.out.2,bk.out⟩
 clear az X
 go_loopg [13] n (fun f i wr=>∃(j:Nat) (kj:Kd),f=n-j/\j≤n/\i=.int .i64 (j:Int)/\Hid (Z=Em.rI p (ls.drop j) kj/\At (E+1+((ls.take j).map (iG 6)).sum) ns P kb w k wr kj))
 case atStart=>exact ⟨0,aU k 1,by omega,by omega,rfl,HZ.out,by simpa using A1.out⟩
 case round=>
  obtain ⟨j,kj,rfl,hj,rfl,hr⟩:=hrel
  obtain ⟨ai,hA⟩:=hr.out
  by_cases hlt:j<n
  ·obtain ⟨l,hl⟩:∃l:List (St 6),ls[j]?=some l:=⟨_,aE5 (by rw[<-HH.out.2.1];exact hlt)⟩
   obtain ⟨u,c0,I⟩:=bz.out j l hl
   have kp:bB A A w wr:=hA.keep HH.out.1
   have c0:=cL kp (HG.out (by omega)).2 c0
   have I:=I.carry kp
   have bq:=ixR ad gd n cap j hlt (fun Q=>(HG.out Q).1)
   have am:=HH.out.2.2 l (aH8 hl)
   obtain ⟨E1,ay⟩:∃E1,E1=E+1+((ls.take (j+1)).map (iG 6)).sum:=⟨_,rfl⟩
   have ax:E+1+((ls.take j).map (iG 6)).sum+iG 6 l=E1:=by rw[ay,mQ (iG 6) hl];omega
   have au:E1<1000000:=by have:=mK (iG 6) hl;have:=HE.out;omega
   have y:=Ie (A:=A) (kb:=kb) (ns:=ns) 6 I am.1 am.2.1 am.2.2 hA.1 (hA.ro HH.out.1) (by rw[ax];exact au)
   rw[ax] at y
   have HJ:Hid (At (E+1+((ls.take j).map (iG 6)).sum) ns P kb w k wr kj/\Z=Em.rI p (l::ls.drop (j+1)) kj/\E1<1000000/\E1=E+1+((ls.take (j+1)).map (iG 6)).sum):=⟨hA,by rw[ai,dT hl],au,ay⟩
   clear hr ai hA hl I kp am ay ax au
   go_upto_region 5 with (go_at_call 116;refine y.mono ?_;rintro e w2 ⟨g,rfl,h2⟩)
   obtain ⟨r,U,P2,R2,hz,Y⟩:=h2.out
   obtain ⟨r,rfl⟩:∃r':jP (St 5) (Rg 5),r=r':=⟨r,rfl⟩
   obtain ⟨gS,aS,cS,vo,aj,J,hS,ba,hst⟩:Nu (fun x=>A x\/R2 x) w2 (fH (fun x=>A x\/R2 x) 5 w2) r g:=Y.rg
   have ag:Od ns (eS ns 5) r:=Y.ok
   have ca:0≤r.there/\r.there<U.net.places:=Y.th
   obtain ⟨t,ht⟩:∃t:Nat,r.there=(t:Int):=⟨r.there.toNat,by omega⟩
   obtain ⟨f0,ah⟩:∃f0:Nat,r.first=(f0:Int):=⟨r.first.toNat,by have:=ag.f.1;omega⟩
   obtain ⟨m,hm⟩:∃m,m=r.states.length:=⟨_,rfl⟩
   obtain ⟨fl,bc⟩:∃fl,fl=U.net.first.length:=⟨_,rfl⟩
   have ak:t<U.net.first.length:=by have:=Y.cm.2.1.len;omega
   obtain ⟨b,bi,b1,br,⟨bu,b2⟩,b3,be,bb⟩:=Y.cm.zeroed ak
   rw[<-bc] at b1 ak
   have bh:=aL1 b fl bi t ak
   rw[<-hm,ht,ah] at aj
   have g3:=aA aj 3 (u:=.int .i64 (t:Int)) rfl
   obtain ⟨s,an⟩:∃s,s=(w2.setCell ⟨b,t,none⟩ (.int .i64 0)).drew:=⟨_,rfl⟩
   have ao:eK E1 ns P2 s kb (zeroed U t):=by rw[an];exact be.drew
   have af:bM P2 w2 s:=by rw[an];exact bb.drew
   have nA:∀x,A x\/R2 x->x<w2.heap.size/\¬P2 x:=fun x hx=>by
    have h0:=HJ.out.1.ro HH.out.1
    rcases hx with hx|hx
    ·exact ⟨aH3 (h0 x hx).1 Y.fr.size,fun Q=>(Y.up x Q).elim (h0 x hx).2 fun h=>absurd h.1 (by have:=(h0 x hx).1;omega)⟩
    ·exact ⟨(Y.rn x hx).2,fun Q=>Y.dr x Q hx⟩
   have k3:bB (fun x=>A x\/R2 x) (fun x=>A x\/R2 x) w2 s:=fun x hx hl=>⟨hx,af.block x hl (nA x hx).2⟩
   have ac:=lA k3 J aj
   have O:Hid (Laid A ns (Up P w wr) kb wr kj 6 E1 r g P2 R2 w2 U/\bM P2 w2 s/\eK E1 ns P2 s kb (zeroed U t)/\fH (fun x=>A x\/R2 x) 6 s r g/\eS ns 6 r/\r.there=(t:Int)/\r.first=(f0:Int)/\m=r.states.length/\(∀x,A x\/R2 x->x<w2.heap.size/\¬P2 x)/\f0<m/\U.net.places≤(zeroed U t).net.places):=⟨Y,af,ao,fH.carry 6 k3 r g Y.rg,Y.ok,ht,ah,hm,nA,by have:=ag.f.2;omega,Int.le_refl _⟩
   have bf:Hid (Z=((Em.aJ 6).goOn r (t:Int) (Em.eC (List.replicate m []) (f0:Int) p false) >>= fun _=>Em.rI p (ls.drop (j+1))) (zeroed U t)):=by
    rw[Hid,HJ.out.2.1,Dm hz ht,ht,ah,<-hm]
   have bn:m≤1000000:=by rw[hm];exact ag.n
   have s0:=aA ac 0 (u:=.slice aS m cS) rfl
   have s2:=aA ac 2 (u:=.int .i64 (f0:Int)) rfl
   have s3:=aA ac 3 (u:=.int .i64 (t:Int)) rfl
   have bo:Hid (s.heap[g]?=some (.cells #[.slice aS m cS,vo,.int .i64 (f0:Int),.int .i64 (t:Int),.bool r.idle,.bool r.leaves] 188 (0,0))/\(A g\/R2 g)):=⟨ac,J⟩
   clear h2 hz Y aj J hS ba hst ag ca ht ah hm bc ak br be bb ao af nA k3 ac y bq c0
   go_region
   all_goals
    rw[<-an]
    clear an b1 b2 b3 g3 bh
    obtain ⟨W4,ae⟩:∃W4,W4=s.alloc (.cells (Array.replicate m (Value.slice none 0 0)) 238):=⟨_,rfl⟩
    obtain ⟨b0,al⟩:∃b0,b0=s.heap.size:=⟨_,rfl⟩
    have ar:Below s.heap.size s W4:=by rw[ae];exact aC _ _
    have ap:xE (fun x=>x=b0) W4 b0 (List.replicate m []) 0:=Q9 (by rw[ae,al,List.toArray_replicate];exact aX s _)
    have bv:∀W,(Instr.makeSlice 190 (.int .i64 (m:Int)) (.int .i64 (m:Int))).run Tryz.prog W=.ok (.slice (some ⟨W.heap.size,0,none⟩) m m) (W.alloc (.cells (List.replicate m (Value.slice none 0 0)).toArray 238)):=fun W=>Rh W m bn
    have ab:=tM (i:=f0) p false ap (by rw[List.length_replicate];exact O.out.2.2.2.2.2.2.2.2.2.1) (by omega)
    rw[List.length_replicate] at ab
    have q2:=aN ar s2
    have D:Hid (Below s.heap.size s W4/\b0=s.heap.size/\xE (fun x=>x=b0) W4 b0 (List.replicate m []) 0/\W4.heap.size=s.heap.size+1):=⟨ar,al,ap,by rw[ae];simp⟩
    clear ar ap s2 s3
    go_upto_region 7 with fail
    rw[<-ae,<-al]
    clear ae al bv s0
    go_upto_region 8 with (go_at_call 117;refine ab.mono ?_;rintro e w5 ⟨rfl,h5⟩)
    have aa:Below s.heap.size s w5:=D.out.1.trans (h5.out.2.below (B:=s.heap.size) (by have:=D.out.2.2.2;omega) fun x hx=>by rw[hx,D.out.2.1];exact aF4 _)
    have hsz:w2.heap.size≤s.heap.size:=O.out.2.1.size
    have av:=Tb HJ.out.2.2.1 6 (A:=fun x=>A x\/R2 x) (kb:=kb) (ns:=ns) (P:=P2) (T:=Up (fun x=>x=b0) W4 w5) (w:=w5) (k:=zeroed U t) (r:=r) (g:=g) (b:=b0) (here:=(t:Int)) (t:=Em.eC (List.replicate m []) (f0:Int) p false) (c:=0+1) (fH.carry 6 (fun x hx hl=>⟨hx,aa.block x hl⟩) r g O.out.2.2.2.1) O.out.2.2.2.2.1 (O.out.2.2.1.below aa) h5.out.1 (fun x hx I=>by
     have X:=O.out.2.2.1.2.2 x hx
     rcases I with I|I
     ·rw[I,D.out.2.1] at X;omega
     ·have:=D.out.2.2.2;omega) (fun x hx=>⟨by have:=(O.out.2.2.2.2.2.2.2.2.1 x hx).1;have:=aa.size;omega,fun I=>by
     have X:=O.out.2.2.2.2.2.2.2.2.1 x hx
     rcases I with I|I|I
     ·exact X.2 I
     ·rw[I,D.out.2.1] at X;omega
     ·have:=D.out.2.2.2;omega⟩) (by rw[nJ,List.length_replicate];exact O.out.2.2.2.2.2.2.2.1) (by omega)
    have HT:Hid (∀e w6,nK E1 ns P2 (Up (fun x=>x=b0) W4 w5) kb w5 (zeroed U t) ((Em.aJ 6).goOn r (t:Int) (Em.eC (List.replicate m []) (f0:Int) p false) (zeroed U t)) e w6->(e=Vl/\Hid ((Em.aJ 6).goOn r (t:Int) (Em.eC (List.replicate m []) (f0:Int) p false) (zeroed U t)=none)/\Hid (bM P w w6))\/∃k5,e=.returned (.tuple #[])/\Hid ((Em.aJ 6).goOn r (t:Int) (Em.eC (List.replicate m []) (f0:Int) p false) (zeroed U t)=some ((),k5))/\Hid (At E1 ns P kb w k w6 k5)):=fun e w6 hG=>
     Ox HP.out HJ.out.1.2.1 HJ.out.1.2.2 O.out.1 O.out.2.1 O.out.2.2.2.2.2.2.2.2.2.2 (nK.ran aa O.out.2.2.1.2.2 (fun x hx=>by
      rcases hx with hx|hx
      ·rw[hx,D.out.2.1];exact aF4 _
      ·have:=D.out.2.2.2;omega) hG)
    have hs:(Em.aJ 6).size r=m:=O.out.2.2.2.2.2.2.2.1.symm
    rw[hs] at av
    have q3:=aA (aD aa bo.out.1) 3 (u:=.int .i64 (t:Int)) rfl
    clear aa hsz h5 ab q2 hs
    go_wp2_with (go_at_call 118;refine av.mono ?_;intro e w6 h6;rcases HT.out _ _ h6 with ⟨rfl,h0,X⟩|⟨k6,rfl,h0,X⟩;(· exact ⟨rfl,.inl ⟨rfl,bf.out.trans (aH h0.out),X⟩⟩);have HN:Hid (Z=Em.rI p (ls.drop (j+1)) k6/\At E1 ns P kb w k w6 k6):=⟨bf.out.trans (bind_some h0.out),X.out⟩;clear h0 X h6 av)
    go_roundg (n-(j+1))
    case measure=>omega
    case rel=>exact ⟨j+1,k6,rfl,by omega,by go_num,HN.out.1,by rw[<-HJ.out.2.2.2];exact HN.out.2⟩
  ·have HF:Hid (fJ EE ns P kb w k Z (fun _=>.tuple #[]) (.returned (.tuple #[])) wr):=by
    have bm:j=n:=by omega
    have he:ls.take j=ls:=List.take_of_length_le (by rw[bm,HH.out.2.1];exact aF4 _)
    rw[he,<-HE.out.1] at hA
    refine At.ends (a:=()) hA ?_
    rw[ai,aP3 (by rw[<-HH.out.2.1];omega)]
    rfl
   clear hr ai hA
   go_wp2_with fail
   go_end0
   exact HF.out
end
end Ew
end
section
open Go.RowKit Px
theorem yJ {ρ:Type}{vs:List bQ}{R:List ρ->Nat->I4}{l:List (cF ρ)}{n m:Nat}(h:pE vs R l n=.ok m):jC l=1:=by
 unfold pE at h
 split at h
 ·exact absurd h (by simp)
 ·split at h
  ·exact absurd h (by simp)
  ·rename_i j
   have j:dD l=0:=by omega
   unfold dD at j
   split at j
   ·simp at j
   ·split at j
    ·simp at j
    ·omega
theorem uQ {α:Type}{f:α->Nat}:∀{l:List α},(∀a∈l,1≤f a)->l.length≤gY f l
 | [],_=>aF4 _
 | a::r,h=>by
  have h1:=h a (List.mem_cons_self ..)
  have h2:=uQ (l:=r) fun b hb=>h b (List.mem_cons_of_mem _ hb)
  rw[gY,aO4];omega
theorem D9 {vs:List bQ}:∀{k:Nat}{l:List (St k)}{n m:Nat},nB vs k l n=.ok m->1≤Y4 k l
 | 0,l,n,m,h=>by simp[nB] at h
 | k+1,l,n,m,h=>by
  have h1:=yJ (show pE vs (nB vs k) l n=.ok m from h)
  have h2:(List.filter (fun s:cF (St k)=>s.first) l).length≤l.length:=List.length_filter_le _ _
  have h3:l.length≤Y4 (k+1) l:=yB (Cz (k+1)) l
  unfold jC at h1
  omega
theorem Rx {vs:List bQ}:∀{k:Nat}{l:List (St k)}{n m:Nat},nB vs k l n=.ok m->(∀x∈l,He k x)->Y4 k l≤1000000->vW k l
 | 0,l,n,m,h,_,_=>by simp[nB] at h
 | k+1,l,n,m,h,hN,hc=>by
  have hr:=show pE vs (nB vs k) l n=.ok m from h
  obtain ⟨⟨o,_,hd,ht⟩,hs⟩:=Wl hr
  have h3:l.length≤Y4 (k+1) l:=yB (Cz (k+1)) l
  refine ⟨yJ hr,hd,ht,by omega,fun s hs'=>?_⟩
  obtain ⟨hn,hi⟩:=hN s hs'
  obtain ⟨n1,_,_,_,_,n2,n3⟩:=hn
  have h4:1+Cz (k+1) s≤Y4 (k+1) l:=yA (fun x:St (k+1)=>1+Cz (k+1) x) hs'
  have h5:Cz (k+1) s=gY (Y4 k) (cF.regions s):=rfl
  obtain ⟨n',m',hq⟩:=hs s hs'
  have h6:(cF.regions s).length≤gY (Y4 k) (cF.regions s):=uQ fun r hr=>by
   obtain ⟨n',m',hq'⟩:=mZ hq r hr
   exact D9 hq'
  refine ⟨n1,n3,by omega,fun y hy=>(n2 y hy).1,fun r hr=>?_⟩
  obtain ⟨n',m',hq'⟩:=mZ hq r hr
  have h7:=yA (Y4 k) hr
  exact Rx hq' (hi r hr) (by omega)
theorem G9 {c:fZ}(h:gI c=none) (s:qZ c):(∀r∈c.regions,vW 6 r)/\c.regions.length≤1000000:=by
 unfold gI at h
 split at h
 ·exact absurd h (by simp)
 ·split at h
  ·exact absurd h (by simp)
  ·split at h
   ·exact absurd h (by simp)
   ·rename_i m hm
    refine ⟨fun r j=>?_,?_⟩
    ·obtain ⟨n,m,u⟩:=mZ hm r j
     have:=yA (Y4 6) j
     have:=s.many
     exact Rx u (s.sts r j) (by omega)
    ·have:=uQ (f:=Y4 6) (l:=c.regions) fun r j=>by
      obtain ⟨n,m,u⟩:=mZ hm r j
      exact D9 u
     have:=s.many
     omega
def Hf:E->Prop
 | .nil=>True
 | .node _ _ a l r=>jF a.num/\Hf l/\Hf r
def vV (l:List iY):Prop:=∀a∈l,Hf a.e
def Zv {ρ:Type}(s:cF ρ):Prop:=vV s.enter/\vV s.during/\vV s.leave/\Hf s.rests/\∀y∈s.ways,Hf y.cond/\vV y.sets
def Vb:(k:Nat)->St k->Prop
 | 0=>fun _=>True
 | k+1=>fun s=>Zv s/\∀r∈cF.regions s,∀x∈r,Vb k x
theorem sG.of:∀{e:E},C0 e->Hf e->sG e
 | .nil,_,_=>trivial
 | .node _ _ _ _ _,h,k=>⟨h.1,k.1,sG.of h.2.1 k.2.1,sG.of h.2.2 k.2.2⟩
theorem Yc {ns:List bE}{s:bE}(h:(jT ns s).isNone=false):s∈ns:=by
 cases hf:jT ns s with
 | none=>rw[hf] at h;simp at h
 | some i=>
  obtain ⟨j,l,_⟩:=tQ hf
  rw[<-l,iO,aE5 j]
  exact aW7 j
theorem D5 {vs:List bQ}:∀{l:List iY},cY vs l=0->∀a∈l,nT vs a=0
 | [],_,a,h=>by simp at h
 | b::r,h,a,ha=>by
  rw[cY] at h
  split at h
  ·rename_i hb;exact absurd h hb
  ·rename_i hb
   rcases aO6.1 ha with rfl|ha
   ·omega
   ·exact D5 h a ha
theorem sV {vs:List bQ}{l:List iY}(h:cY vs l=0) (hn:lT l) (hb:vV l):qE (cG vs) l:=fun a ha=>by
 have h1:=D5 h a ha
 unfold nT at h1
 split at h1
 ·simp at h1
 ·rename_i h2
  simp only[Bool.or_eq_true,not_or,Bool.not_eq_true] at h2
  exact ⟨Yc h2.1,(hn a ha).1,sG.of (hn a ha).2 (hb a ha)⟩
theorem C2 {vs:List bQ}{ns:List bE}{b:Bool}:∀{l:List Wy},lF vs ns b l=0->∀y∈l,nO vs ns b y=0
 | [],_,y,h=>by simp at h
 | z::r,h,y,hy=>by
  rw[lF] at h
  split at h
  ·rename_i hb;exact absurd h hb
  ·rename_i hb
   rcases aO6.1 hy with rfl|hy
   ·omega
   ·exact C2 h y hy
theorem Jm {vs:List bQ}{ns:List bE}{b:Bool}{y:Wy}(h:nO vs ns b y=0):cY vs y.sets=0:=by
 unfold nO at h
 split at h
 ·simp at h
 ·split at h
  ·simp at h
  ·split at h
   ·simp at h
   ·exact h
theorem X6 {ρ:Type}{vs:List bQ}{ns:List bE}{s:cF ρ}(h:zO vs ns s=0):cY vs s.enter=0/\cY vs s.during=0/\cY vs s.leave=0/\∃b,lF vs ns b s.ways=0:=by
 unfold zO at h
 split at h
 ·simp at h
 ·split at h
  ·rename_i hb;exact absurd h hb
  ·split at h
   ·rename_i hb;exact absurd h hb
   ·split at h
    ·rename_i hb;exact absurd h hb
    ·split at h
     ·simp at h
     ·exact ⟨by omega,by omega,by omega,_,h⟩
theorem aA6 {ρ:Type}{vs:List bQ}{ns:List bE}{i:Nat}{s:cF ρ}(h:jH vs ns i s=0) (u:I5 s) (hb:Zv s) (J:s.regions.length≤maxLen):StR (cG vs) s:=by
 unfold jH at h
 split at h
 ·simp at h
 ·obtain ⟨a1,O,r,b,a4⟩:=X6 h
  obtain ⟨_,n,D,n3,n4,n5,n6⟩:=u
  obtain ⟨l,I,b3,b4,b5⟩:=hb
  exact ⟨sV a1 n l,sV O D I,sV r n3 b3,sG.of n4 b4,fun y j=>⟨sG.of (n5 y j).2.1 (b5 y j).1,sV (Jm (C2 a4 y j)) (n5 y j).2.2 (b5 y j).2⟩,by unfold maxLen;omega,J⟩
theorem o7 {vs:List bQ}:∀{k:Nat}{l:List (St k)}{n m:Nat},nB vs k l n=.ok m->(∀x∈l,He k x)->(∀x∈l,Vb k x)->vW k l->rO (cG vs) k l
 | 0,_,_,_,_,_,_,_=>trivial
 | k+1,l,n,m,h,hN,hB,hL=>by
  have hr:=show pE vs (nB vs k) l n=.ok m from h
  obtain ⟨_,_,_,_,hl⟩:=hL
  intro s hs
  have hst:∃m',gA vs (nB vs k) (bD (ρ:=St k) l) l 0 n=.ok m':=by
   unfold pE at hr
   split at hr
   ·exact absurd hr (by simp)
   ·rename_i m' u;exact ⟨m',u⟩
  obtain ⟨m',u⟩:=hst
  obtain ⟨⟨i,J⟩,Q,I,D⟩:=rR u s hs
  obtain ⟨_,_,X,_,O⟩:=hl s hs
  refine ⟨aA6 J (hN s hs).1 (hB s hs).1 (by unfold maxLen;omega),fun r j=>?_⟩
  obtain ⟨U,Y,y⟩:=mZ D r j
  exact o7 y ((hN s hs).2 r j) ((hB s hs).2 r j) (O r j)
theorem Gk {c:fZ}(h:gI c=none) (l:qZ c) (hB:∀r∈c.regions,∀x∈r,Vb 6 x):Vi c:=by
 obtain ⟨s,y⟩:=G9 h l
 refine ⟨l.vars,l.names,by unfold maxLen;omega,?_⟩
 unfold gI at h
 split at h
 ·exact absurd h (by simp)
 ·split at h
  ·exact absurd h (by simp)
  ·split at h
   ·exact absurd h (by simp)
   ·rename_i m hm
    intro r j
    obtain ⟨n,m,u⟩:=mZ hm r j
    exact o7 u (l.sts r j) (hB r j) (s r j)
end
section
open Go.RowKit Px
namespace Kx
theorem nbE {e:E}(h:Sh.TE e):Hf e:=by
 induction e with
 | nil=>trivial
 | node b o a l r ihl ihr=>
  obtain ⟨y,u,n,D,_,s,j⟩:=h
  exact ⟨n,ihl s,ihr j⟩
theorem nbS {l:List iY}(h:Sh.TS l):vV l:=fun a ha=>nbE (h a ha).1
theorem aR3:∀(k:Nat) (x:St k),Sh.Yx k x->Vb k x:=by
 intro k
 induction k with
 | zero=>intro x _;trivial
 | succ k ih=>
  intro x h
  obtain ⟨O,s,n,J,D,l,I⟩:=h
  exact ⟨⟨nbS s,nbS n,nbS J,nbE D,fun y j=>⟨nbE (l y j).2.2.1,nbS (l y j).2.2.2.1⟩⟩,fun r u y j=>ih y (I r u y j)⟩
theorem Hz {L:List Lx.fQ}(u:Wf L) {c:fZ}(h:dJ L=.ok c):(∀r∈c.regions,∀x∈r,Vb 6 x)/\∀v∈c.vars,jF v.first:=by
 obtain ⟨j,n,y⟩:=Sh.V4 u h
 exact ⟨fun r s x hx=>aR3 6 x (n r s x hx),fun v l=>⟨(j v l).1.2.2.1,(j v l).1.2.2.2⟩⟩
structure aN6 (c:fZ):Prop where
 ok:gI c=none
 nm:qZ c
 run:Vi c
 n64:∀v∈c.vars,jF v.first
theorem aQ8 {s:ByteArray}{l:List Lx.fQ}{c:fZ}(hok:Lx.Ok (bs s) l) (hch:dJ (fin s l)=.ok c) (h:gI c=none):aN6 c:=
 ⟨h,O6 (xN hok) hch,Gk h (O6 (xN hok) hch) (Hz (xN hok) hch).1,(Hz (xN hok) hch).2⟩
end Kx
end
section
open Go.RowKit Px
namespace Ew
theorem mC {α:Type}(f:α->Nat):∀l:List α,Sh.fU f l=(l.map f).sum
 | []=>rfl
 | a::r=>by rw[Sh.fU,mC f r];rfl
theorem J2 {α:Type}{f g:α->Nat}:∀{l:List α},(∀a∈l,f a≤g a)->(l.map f).sum≤(l.map g).sum
 | [],_=>aF4 _
 | a::r,h=>by
  have h1:=h a (by simp)
  have h2:=J2 (l:=r) fun x hx=>h x (by simp[hx])
  simp only[List.map_cons,List.sum_cons]
  omega
theorem xZ {α:Type}{f:α->Nat}:∀{l:List α},(∀a∈l,1≤f a)->l.length≤(l.map f).sum
 | [],_=>aF4 _
 | a::r,h=>by
  have h1:=h a (by simp)
  have h2:=xZ (l:=r) fun x hx=>h x (by simp[hx])
  simp only[List.map_cons,List.sum_cons,aO4]
  omega
theorem Oo:∀(d:Nat) (l:List (St d)),iG d l≤Sh.wR (Sh.jG d) l
 | 0,l=>by show 1≤1+Sh.fU (Sh.jG 0) l;omega
 | d+1,l=>by
  show 1+(List.map (jG (iG d)) (show List (cF (St d)) from l)).sum≤1+Sh.fU (Sh.lG (Sh.jG d)) (show List (cF (St d)) from l)
  rw[mC]
  refine Nat.add_le_add_left (J2 fun s _=>?_) 1
  have h1:s.ways.length≤Sh.fU Sh.wW s.ways:=by rw[mC];exact xZ fun y _=>by unfold Sh.wW;omega
  have h2:(s.regions.map (iG d)).sum≤Sh.fU (Sh.wR (Sh.jG d)) s.regions:=by rw[mC];exact J2 fun r _=>Oo d r
  unfold jG Sh.lG
  omega
theorem O8 {α:Type}(f:α->Nat) {l:List α}{a:α}(h:a∈l):f a≤(l.map f).sum:=by
 induction l with
 | nil=>simp at h
 | cons b r ih=>
  simp only[List.map_cons,List.sum_cons]
  rcases aO6.1 h with rfl|h
  ·omega
  ·have:=ih h;omega
theorem Z6:∀(d:Nat) (l:List (St d)),(∀x∈l,Sh.Yx d x)->Sh.wR (Sh.jG d) l≤1000000->rN d l
 | 0,_,_,_=>trivial
 | d+1,l,h,hw=>by
  intro s hs
  obtain ⟨h0,h1,h2,h3,h4,h5,h6⟩:Sh.B8 (Sh.Yx d) s:=h s hs
  have hw':1+Sh.fU (Sh.lG (Sh.jG d)) (show List (cF (St d)) from l)≤1000000:=hw
  rw[mC] at hw'
  have hm:=O8 (Sh.lG (Sh.jG d)) (l:=(show List (cF (St d)) from l)) hs
  have e:Sh.lG (Sh.jG d) s=1+Sh.wS s.enter+Sh.wS s.during+Sh.wS s.leave+Sh.wE s.rests+Sh.fU Sh.wW s.ways+Sh.fU (Sh.wR (Sh.jG d)) s.regions:=rfl
  have a1:=Sh.On s.during
  have a2:=Sh.On s.leave
  refine ⟨by omega,by omega,fun y hy=>by have:=(h5 y hy).2.1;omega,fun r hr=>Z6 d r (fun x hx=>h6 r hr x hx) ?_⟩
  have:=O8 (Sh.wR (Sh.jG d)) hr
  rw[<-mC] at this
  omega
structure EmC (c:fZ):Prop where
 run:Kx.aN6 c
 tm:∀r∈c.regions,rN 6 r
 lay:∀r∈c.regions,vW 6 r
 few:c.vars.length+(c.regions.map (iG 6)).sum≤1000
theorem emC {s:ByteArray}{l:List Lx.fQ}{c:fZ}(u:Lx.Ok (bs s) l) (j:dJ (fin s l)=.ok c) (h:gI c=none):EmC c:=by
 obtain ⟨I,y,D⟩:=Sh.V4 (xN u) j
 have n:=Kx.aQ8 u j h
 rw[mC] at D
 refine ⟨n,fun r n=>Z6 6 r (y r n) ?_,(G9 h n.nm).1,?_⟩
 ·have:=O8 (Sh.wR (Sh.jG 6)) n;omega
 ·have:=J2 (f:=iG 6) (g:=Sh.wR (Sh.jG 6)) (l:=c.regions) fun r _=>Oo 6 r;omega
end Ew
end
section
open Go.RowKit Px
namespace Ew
open Px.Em (Kd Vr eQ eR jP Rg cX)
open Nx (Nt Sp eJ)
theorem Xs (v:Value) (w:World):(Instr.typeAssert (.iface 86 v) 20 86 true).run Tryz.prog w=.ok (.tuple #[v,.bool true]) w:=by kernel_rfl
def ZN:Array Value:=#[.int .i64 0,.slice none 0 0,.slice none 0 0,.slice none 0 0,.slice none 0 0,.slice none 0 0,.slice none 0 0]
theorem Y7 (n h:Addr) (w:World) :
    CallsD Tryz.prog 69 #[.pointer (some n),.pointer (some h)] .returning w fun e u' w'=>e=.returned (.tuple #[])/\u'=.returning/\w'=w:=by
 refine callsD_of_wpS Tryz.func69 rfl fun j cs l=>?_
 apply wpS_seq
 apply wpS_region
 simp[wpOpsS,go_sem,recoverD,l,Tryz.ntmps69,Exit.thenS]
 apply wpS_of_wp
 go_wp2
 cases j
 simp_all [bodyPostS,results,Tryz.results69]
theorem rG (h r:Nat) (w:World) (j:List PanicEntry) (X:w.cell? ⟨h,0,none⟩=some (.int .i64 0)) (l:∀o,1≤o->o≤6->w.cell? ⟨h,o,none⟩=some (.slice none 0 0)) (Y:∀o,w.frozen? ⟨h,o,none⟩=false) (O:w.cell? ⟨r,0,none⟩=some .nilIface) (U:w.frozen? ⟨r,0,none⟩=false) (D:h≠r) :
    CallsD Tryz.prog 69 #[.pointer (some ⟨h,0,none⟩),.pointer (some ⟨r,0,none⟩)] (.panicking ({ v:=.iface 86 (.int .i64 4),recovered:=false }::j)) w fun e u' w'=>e=.returned (.tuple #[])/\u'=.panicking ({ v:=.iface 86 (.int .i64 4),recovered:=true }::j)/\w'=(((((((w.setCell ⟨h,0,none⟩ (.int .i64 0)).setCell ⟨h,1,none⟩ (.slice none 0 0)).setCell ⟨h,2,none⟩ (.slice none 0 0)).setCell ⟨h,3,none⟩ (.slice none 0 0)).setCell ⟨h,4,none⟩ (.slice none 0 0)).setCell ⟨h,5,none⟩ (.slice none 0 0)).setCell ⟨h,6,none⟩ (.slice none 0 0)).setCell ⟨r,0,none⟩ (.iface 86 (.int .i64 4)):=by
 have I:=l 1 (by omega) (by omega)
 have Z:=l 2 (by omega) (by omega)
 have Q:=l 3 (by omega) (by omega)
 have k4:=l 4 (by omega) (by omega)
 have J:=l 5 (by omega) (by omega)
 have k6:=l 6 (by omega) (by omega)
 clear l
 refine callsD_of_wpS Tryz.func69 rfl fun s cs u=>?_
 apply wpS_seq
 apply wpS_region
 simp[wpOpsS,go_sem,recoverD,u,Tryz.ntmps69,Exit.thenS]
 have n:∀(V a b:Value),(#[a,b]++((Array.replicate 17 undef).setIfInBounds 3 V).setIfInBounds 0 V:Array Value)=#[a,b,V,undef,undef,V,undef,undef,undef,undef,undef,undef,undef,undef,undef,undef,undef,undef,undef]:=fun _ _ _=>rfl
 rw[n]
 apply wpS_of_wp
 have y:=Xs (.int .i64 4)
 go_wp2
 cases s
 simp_all [bodyPostS,results,Tryz.results69]
theorem We:(Tryz.prog.info? 26).map (·.size)=some 7:=by kernel_rfl
theorem xG {W:World}{g:Nat}{fc:Array Value}(hsz:fc.size=7) (hg:W.heap[g]?=some (.cells fc 26 (0,0))):(loadVar 26 ⟨g,0,none⟩).run Tryz.prog W=.ok (.agg fc) W:=
 run_loadVar_row (P:=Tryz.prog) W g 26 26 fc (0,0) _ hg Tryz.underlying26 rfl (by rw[hsz];exact We)
theorem yI (h:Array Value) (W:World) (c e:Nat) (j:Array Value) (v:Value) (hsz:j.size=7) (s:h[2]?.getD undef=.pointer (some ⟨c,0,none⟩)) (r:h[3]?.getD undef=.pointer (some ⟨e,0,none⟩)) (n:W.heap[c]?=some (.cells j 26 (0,0))) (l:W.heap[e]?=some (.cells #[v] 33 (0,0))) :
    (results Tryz.f38 h).run Tryz.prog W=.ok (.tuple #[.agg j,v]) W:=by
 simp[results,Tryz.results38,s,r,asAddr,xG hsz n,Rq l]
theorem gJ {W:World}{g:Nat}{T:TypeId}{f:Nat×Nat}{a0 a1 n j a4 a5 l:Value}(h:W.heap[g]?=some (.cells #[a0,a1,n,j,a4,a5,l] T f)):W.cell? ⟨g,0,none⟩=some a0/\W.cell? ⟨g,1,none⟩=some a1/\W.cell? ⟨g,2,none⟩=some n/\W.cell? ⟨g,3,none⟩=some j/\W.cell? ⟨g,4,none⟩=some a4/\W.cell? ⟨g,5,none⟩=some a5/\W.cell? ⟨g,6,none⟩=some l:=by
 refine ⟨?_,?_,?_,?_,?_,?_,?_⟩<;>(rw[cell_of_row _ _ _ _ _ _ h];rfl)
theorem aA9 {w2:World}{c e:Nat}{a0 a1 D I a4 a5 J v O:Value}(hc:w2.heap[c]?=some (.cells ZN 26 (0,0))) (he:w2.heap[e]?=some (.cells #[O] 33 (0,0))) (n:c≠e) {w3:World}(hw:w3=(((((((w2.setCell ⟨c,0,none⟩ a0).setCell ⟨c,1,none⟩ a1).setCell ⟨c,2,none⟩ D).setCell ⟨c,3,none⟩ I).setCell ⟨c,4,none⟩ a4).setCell ⟨c,5,none⟩ a5).setCell ⟨c,6,none⟩ J).setCell ⟨e,0,none⟩ v) :
    w3.heap[c]?=some (.cells #[a0,a1,D,I,a4,a5,J] 26 (0,0))/\w3.heap[e]?=some (.cells #[v] 33 (0,0))/\(∀k,k≠c->k≠e->w3.heap[k]?=w2.heap[k]?)/\(∀B a,Below B a w2->B≤c->B≤e->Below B a w3):=by
 have h0:=cH (l:=[.int .i64 0,.slice none 0 0,.slice none 0 0,.slice none 0 0,.slice none 0 0,.slice none 0 0,.slice none 0 0]) hc 0 a0
 have Z:=cH (l:=[a0,.slice none 0 0,.slice none 0 0,.slice none 0 0,.slice none 0 0,.slice none 0 0,.slice none 0 0]) h0 1 a1
 have X:=cH (l:=[a0,a1,.slice none 0 0,.slice none 0 0,.slice none 0 0,.slice none 0 0,.slice none 0 0]) Z 2 D
 have h3:=cH (l:=[a0,a1,D,.slice none 0 0,.slice none 0 0,.slice none 0 0,.slice none 0 0]) X 3 I
 have h4:=cH (l:=[a0,a1,D,I,.slice none 0 0,.slice none 0 0,.slice none 0 0]) h3 4 a4
 have h5:=cH (l:=[a0,a1,D,I,a4,.slice none 0 0,.slice none 0 0]) h4 5 a5
 have h6:=cH (l:=[a0,a1,D,I,a4,a5,.slice none 0 0]) h5 6 J
 have y:∀(W:World) (j:Nat) (u:Value) (k:Nat),k≠c->(W.setCell ⟨c,j,none⟩ u).heap[k]?=W.heap[k]?:=fun W j u k hk=>Below.heap_setCell _ _ _ _ hk
 have Y:(((((((w2.setCell ⟨c,0,none⟩ a0).setCell ⟨c,1,none⟩ a1).setCell ⟨c,2,none⟩ D).setCell ⟨c,3,none⟩ I).setCell ⟨c,4,none⟩ a4).setCell ⟨c,5,none⟩ a5).setCell ⟨c,6,none⟩ J).heap[e]?=some (.cells #[O] 33 (0,0)):=by
  rw[y _ _ _ _ (Ne.symm n),y _ _ _ _ (Ne.symm n),y _ _ _ _ (Ne.symm n),y _ _ _ _ (Ne.symm n),y _ _ _ _ (Ne.symm n),y _ _ _ _ (Ne.symm n),y _ _ _ _ (Ne.symm n)];exact he
 have bl:∀(B:Nat) (a W:World) (j:Nat) (u:Value),Below B a W->B≤c->Below B a (W.setCell ⟨c,j,none⟩ u):=fun B a W j u h hB=>h.setCell (p:=⟨c,j,none⟩) hB u
 rw[hw]
 refine ⟨?_,?_,fun k s Q=>?_,fun B a hb r U=>?_⟩
 ·rw[Below.heap_setCell _ _ _ _ n];exact h6
 ·exact cH (l:=[O]) Y 0 v
 ·rw[Below.heap_setCell _ _ _ _ Q,y _ _ _ _ s,y _ _ _ _ s,y _ _ _ _ s,y _ _ _ _ s,y _ _ _ _ s,y _ _ _ _ s,y _ _ _ _ s]
 ·exact (bl _ _ _ _ _ (bl _ _ _ _ _ (bl _ _ _ _ _ (bl _ _ _ _ _ (bl _ _ _ _ _ (bl _ _ _ _ _ (bl _ _ _ _ _ hb r) r) r) r) r) r) r).setCell (p:=⟨e,0,none⟩) U v
theorem lX:∀(vs:List bQ) (k:Kd),∃k',Em.dR vs k=some ((),k')
 | [],k=>⟨k,rfl⟩
 | v::r,k=>by
  by_cases h1:v.kind=1
  ·rw[It h1];exact lX r _
  ·by_cases h2:v.kind=2
   ·rw[Cb h2];exact lX r _
   ·rw[Ca h1 h2];exact lX r _
theorem uD {c:fZ}{j:Kd}(h:Em.dR c.vars Em.kd0=some ((),j)):Em.uE c=((Em.tick c.regions >>= fun _=>Em.dN c.vars) j).map (·.2.net):=by
 show ((Em.dR c.vars >>= fun _=>Em.tick c.regions >>= fun _=>Em.dN c.vars) Em.kd0).map (·.2.net)=_
 rw[I0 h]
section
variable {w:World}{ns:List bE}
theorem aE2 {mv h kb n:Nat}(O:ns.length=n) (Q:n≤100000) (J:h=mv+1) (I:kb=mv+2) (j:w.heap[kb]?=some (.cells #[.int .i64 0,.slice none 0 0,.slice none 0 0,.slice none 0 0,.slice none 0 0,.slice none 0 0,.slice none 0 0,.map (some mv),.map (some h)] 135 (0,0))) (D:Gm.Mp Tryz.prog 9 w mv 0 (fun _=>none)) (u:Gm.Mp Tryz.prog 2 w h 0 (fun _=>none)) :
    eK n ns (fun b=>b=mv\/b=h\/b=kb) w kb Em.kd0:=by
 refine ⟨⟨⟨fun _=>.slice none 0 0,mv,h,0,0,fun b=>if b=kb then 0 else if b=mv then 7 else 8⟩,j,fun i U X=>?_,⟨_,D,fun _=>rfl⟩,⟨_,u,fun _=>rfl⟩,⟨.inr (.inr rfl),if_pos rfl⟩,fun i g _ _ y=>by simp[Value.ownBlock] at y,⟨.inl rfl,?_⟩,⟨.inr (.inl rfl),?_⟩,aF4 _,aF4 _,by show mv+2=kb;omega⟩,⟨rfl,?_,aJ5 _,aF4 _,aF4 _,aF4 _,aF4 _,by omega,fun x hx=>by simp[Em.kd0] at hx,fun x hx=>by simp[Em.kd0] at hx,fun s=>⟨by show -9223372036854775808≤(0:Int);omega,by show (0:Int)≤9223372036854775807;omega⟩,fun s _=>by show (0:Int)≠-1;omega⟩,fun b hb=>?_⟩
 ·have l:rB Em.kd0.net i=[]:=by unfold rB;split<;>rfl
  have r:pP Em.kd0.net i=0:=by unfold pP;split<;>rfl
  rw[l,r];exact aX2 _ _ _ _
 ·show (if mv=kb then 0 else if mv=mv then 7 else 8)=7
  rw[if_neg (by omega),if_pos rfl]
 ·show (if h=kb then 0 else if h=mv then 7 else 8)=8
  rw[if_neg (by omega),if_neg (by omega)]
 ·show 0+yP ns Em.kd0≤0+n
  have:=An (ns:=ns) (k:=Em.kd0);omega
 ·have:=aB j
  rcases hb with rfl|rfl|rfl<;>omega
end
section
variable {P:Nat->Prop}{w:World}{kb E:Nat}{ns:List bE}{k:Kd}{c:Cv}
structure rE (A:Nat->Prop) (w:World) (n:Nt) (vF vI vO vK vN vC:Value):Prop where
 f:Nx.bH A w vF n.first
 i:Nx.bH A w vI n.ins
 o:Nx.bH A w vO n.outs
 k:Nx.bH A w vK n.keeps
 m:Nx.bH A w vN n.nums
 c:Nx.jA A w vC n.code
theorem rE.carry {A A':Nat->Prop}{w w':World}{n:Nt}{vF vI vO vK vN vC:Value}(h:rE A w n vF vI vO vK vN vC) (k:Nx.bB A A' w w'):rE A' w' n vF vI vO vK vN vC:=⟨h.f.carry k,h.i.carry k,h.o.carry k,h.k.carry k,h.m.carry k,h.c.carry k⟩
theorem rE.netV {A:Nat->Prop}{B:Nat}{w:World}{n:Nt}{vF vI vO vK vN vC:Value}(h:rE A w n vF vI vO vK vN vC) (hA:∀b,A b->b<B):eJ B w n vF vI vO vK vN vC:=
 have h':=h.carry (A':=(· < B)) (w':=w) fun b hb _=>⟨hA b hb,rfl⟩
 ⟨h'.f,h'.i,h'.o,h'.k,h'.m,h'.c⟩
theorem tA {A:Nat->Prop}{t:Nat}{v:Value}{zs:List Int}(h:w.ownsRow 0 t 1 v zs.length (zs.map (Value.int .i64))) (hB:∀g,v.ownBlock=some g->A g):Nx.bH A w v zs:=by
 rcases Nat.eq_zero_or_pos zs.length with l|l
 ·obtain ⟨n,cap,e⟩:=aP h
  exact ⟨n,0,0,cap,e,fun u=>absurd u (by omega),fun k s=>absurd s (by omega)⟩
 ·obtain ⟨g,cap,rfl,_,_⟩:=h.form l
  refine ⟨_,g,0,cap,rfl,fun _=>⟨rfl,hB g rfl⟩,fun j r=>?_⟩
  rw[aP5,h.cellAt j (by omega),aO7,iO,aE5 r]
  rfl
theorem Tg:∀(l:List Sp) (j i:Nat) (s:Sp),l[j]?=some s->i<5->(l.flatMap rS)[j*5+i]?=(rS s)[i]?
 | [],j,i,s,h,_=>by simp at h
 | a::r,0,i,s,h,hi=>by
  have e:a=s:=by simpa using h
  subst e
  rw[List.flatMap_cons,Nat.zero_mul,aP5,aO3 (by simp[rS];omega)]
 | a::r,j+1,i,s,h,hi=>by
  rw[List.flatMap_cons,aP1 (by simp[rS];omega)]
  rw[show (j+1)*5+i-(rS a).length=j*5+i by simp[rS];omega]
  exact Tg r j i s (by simpa using h) hi
theorem s9 {A:Nat->Prop}{t:Nat}{v:Value}{l:List Sp}(h:w.ownsRow 0 t 5 v l.length (l.flatMap rS)) (hB:∀g,v.ownBlock=some g->A g):Nx.jA A w v l:=by
 rcases Nat.eq_zero_or_pos l.length with r|r
 ·obtain ⟨s,cap,e⟩:=aP h
  exact ⟨s,0,0,cap,e,fun D=>absurd D (by omega),fun k u=>absurd u (by omega)⟩
 ·obtain ⟨g,cap,rfl,_,_⟩:=h.form r
  have at':∀j i,j<l.length->i<5->w.cell? ⟨g,0+j*5+i,none⟩=(rS (l.getD j Nx.eD))[i]?:=fun j i n y=>by
   rw[aP5,h.cellAt _ (by omega),Tg l j i (l.getD j Nx.eD) (by rw[iO,aE5 n];rfl) y]
  exact ⟨_,g,0,cap,rfl,fun _=>⟨rfl,hB g rfl⟩,fun j n=>⟨at' j 0 n (by omega),at' j 1 n (by omega),at' j 2 n (by omega),at' j 3 n (by omega),at' j 4 n (by omega)⟩⟩
theorem CM.netA (h:CM P w kb k c):rE P w k.net (c.v 1) (c.v 2) (c.v 3) (c.v 4) (c.v 5) (c.v 6):=
 ⟨tA (h.row 1 (by omega) (by omega)) fun g hg=>(h.pr 1 g (by omega) (by omega) hg).1,tA (h.row 2 (by omega) (by omega)) fun g hg=>(h.pr 2 g (by omega) (by omega) hg).1,tA (h.row 3 (by omega) (by omega)) fun g hg=>(h.pr 3 g (by omega) (by omega) hg).1,tA (h.row 4 (by omega) (by omega)) fun g hg=>(h.pr 4 g (by omega) (by omega) hg).1,tA (h.row 5 (by omega) (by omega)) fun g hg=>(h.pr 5 g (by omega) (by omega) hg).1,s9 (h.row 6 (by omega) (by omega)) fun g hg=>(h.pr 6 g (by omega) (by omega) hg).1⟩
end
end Ew
end
end Go.Proofs.YthieaobjdpfcoaaGreatDoor
