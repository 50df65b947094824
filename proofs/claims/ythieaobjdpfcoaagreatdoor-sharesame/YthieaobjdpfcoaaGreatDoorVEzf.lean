import Derived.Test.YthieaobjdpfcoaaGreatDoorVEze0
import Derived.Test.YthieaobjdpfcoaaGreatDoorVNk
set_option maxRecDepth 100000
set_option maxHeartbeats 16000000
namespace Go.Proofs.YthieaobjdpfcoaaGreatDoor
open Go.Proofs.Tryz (prog)
section
open Go.RowKit Px
namespace Ew
open Px.Em (Kd Vr eQ eR jP Rg cX)
open Nx (Nt Sp)
section
variable {A P:Nat->Prop}{w:World}{ns:List bE}{kb E:Nat}{k:Kd}
theorem Wa {ls:List (List (St 6))}:Em.tick ls k=Em.rI k.net.places ls (aU k 1):=rfl
theorem xU {ls:List (List (St 6))}{v:Value}(hV:gP A w (aM A w 6) ls v) (y:∀l∈ls,vW 6 l/\rO ns 6 l/\rN 6 l) (hE:E+1+(ls.map (iG 6)).sum<1000000) (bv:ls.length≤100000) (h:eK E ns P w kb k) (hR:Ro A P w) :
 Calls prog 71 #[.pointer (some ⟨kb,0,none⟩),v] w (fJ (E+1+(ls.map (iG 6)).sum) ns P kb w k (Em.tick ls k) (fun _=>.tuple #[])):=by
 obtain ⟨ad,gd,cap,rfl,bq,hg,bg⟩:=hV.len
 have J:0<ls.length->A gd:=fun U=>by
  obtain ⟨xs,hr,_⟩:=hV
  exact hr.2 gd (by rw[(hg U).1];rfl)
 obtain ⟨n,hn⟩:=gQx ls.length
 rw[<-hn] at hg J bv ⊢
 obtain ⟨p,U⟩:=gQx k.net.places
 obtain ⟨Z,hZ⟩:=gQx (Em.tick ls k)
 have HZ:Hid (Z=Em.rI p ls (aU k 1)):=by rw[Hid,hZ,U,Wa]
 rw[<-hZ]
 obtain ⟨EE,au⟩:=gQx (E+1+(ls.map (iG 6)).sum)
 rw[<-au] at hE ⊢
 have HE:Hid (EE=E+1+(ls.map (iG 6)).sum/\EE<1000000):=⟨au,hE⟩
 have HP:Hid (∀b,P b->b<w.heap.size):=h.2.2
 have HH:Hid (Ro A P w/\n=ls.length/\∀l∈ls,vW 6 l/\rO ns 6 l/\rN 6 l):=⟨hR,hn,y⟩
 have HG:Hid (0<n->ad=some ⟨gd,0,none⟩/\A gd):=fun U=>⟨(hg U).1,J U⟩
 have bk:Hid (∀(i:Nat) (r:List (St 6)),ls[i]?=some r->∃u,w.cell? ⟨gd,i,none⟩=some u/\aM A w 6 r u):=bg
 have ar:=uX (x:=1) h (by omega) ⟨by omega,by omega⟩
 rw[<-U] at ar
 have bz:Hid (k.net.places≤(aU k 1).net.places):=by show k.net.places≤k.net.places+1;omega
 clear hV h hR hn hZ U hg J bg bq y au hE
 go_enter Tryz.func71,Tryz.ntmps71
 go_upto_region 2 with (go_at_call 114;refine ar.mono ?_;rintro e w1 ⟨rfl,X⟩)
 have A1:Hid (At (E+1) ns P kb w k w1 (aU k 1)):=⟨X.out.1,X.out.2,bz.out⟩
 clear ar X
 go_loopg [13] n (fun f i wr=>∃(j:Nat) (kj:Kd),f=n-j/\j≤n/\i=.int .i64 (j:Int)/\Hid (Z=Em.rI p (ls.drop j) kj/\At (E+1+((ls.take j).map (iG 6)).sum) ns P kb w k wr kj))
 case atStart=>exact ⟨0,aU k 1,by omega,by omega,rfl,HZ.out,by simpa using A1.out⟩
 case round=>
  obtain ⟨j,kj,rfl,hj,rfl,hr⟩:=hrel
  obtain ⟨af,hA⟩:=hr.out
  by_cases hlt:j<n
  ·obtain ⟨l,hl⟩:∃l:List (St 6),ls[j]?=some l:=⟨_,aN4 (by rw[<-HH.out.2.1];exact hlt)⟩
   obtain ⟨u,c0,I⟩:=bk.out j l hl
   have kp:bB A A w wr:=hA.keep HH.out.1
   have c0:=cL kp (HG.out (by omega)).2 c0
   have I:=I.carry kp
   have bi:=K8 ad gd n cap j hlt (fun U=>(HG.out U).1)
   have ai:=HH.out.2.2 l (aP1 hl)
   obtain ⟨E1,ap⟩:=gQx (E+1+((ls.take (j+1)).map (iG 6)).sum)
   have av:E+1+((ls.take j).map (iG 6)).sum+iG 6 l=E1:=by rw[ap,mQ (iG 6) hl];omega
   have aw:E1<1000000:=by have:=mK (iG 6) hl;have:=HE.out;omega
   have y:=Ie (A:=A) (kb:=kb) (ns:=ns) 6 I ai.1 ai.2.1 ai.2.2 hA.1 (hA.ro HH.out.1) (by rw[av];exact aw)
   rw[av] at y
   have HJ:Hid (At (E+1+((ls.take j).map (iG 6)).sum) ns P kb w k wr kj/\Z=Em.rI p (l::ls.drop (j+1)) kj/\E1<1000000/\E1=E+1+((ls.take (j+1)).map (iG 6)).sum):=⟨hA,by rw[af,dT hl],aw,ap⟩
   clear hr af hA hl I kp ai ap av aw
   go_upto_region 5 with (go_at_call 116;refine y.mono ?_;rintro e w2 ⟨g,rfl,h2⟩)
   obtain ⟨r,O,P2,R2,hz,L2⟩:=h2.out
   obtain ⟨r,rfl⟩:∃r':jP (St 5) (Rg 5),r=r':=⟨r,rfl⟩
   obtain ⟨gS,aS,cS,vo,am,J,hS,be,bm⟩:Nu (fun x=>A x\/R2 x) w2 (fH (fun x=>A x\/R2 x) 5 w2) r g:=L2.rg
   have ag:Od ns (eS ns 5) r:=L2.ok
   have bw:0≤r.there/\r.there<O.net.places:=L2.th
   obtain ⟨t,ht⟩:∃t:Nat,r.there=(t:Int):=⟨r.there.toNat,by omega⟩
   obtain ⟨f0,al⟩:∃f0:Nat,r.first=(f0:Int):=⟨r.first.toNat,by have:=ag.f.1;omega⟩
   obtain ⟨m,hm⟩:=gQx r.states.length
   obtain ⟨fl,bb⟩:=gQx O.net.first.length
   have ak:t<O.net.first.length:=by have:=L2.cm.2.1.len;omega
   obtain ⟨b,ba,b1,br,⟨bu,b2⟩,b3,bh,bc⟩:=L2.cm.zeroed ak
   rw[<-bb] at b1 ak
   have bf:=aL1 b fl ba t ak
   rw[<-hm,ht,al] at am
   have g3:=aF am 3 (u:=.int .i64 (t:Int)) rfl
   obtain ⟨s,aj⟩:=gQx ((w2.setCell ⟨b,t,none⟩ (.int .i64 0)).drew)
   have an:eK E1 ns P2 s kb (zeroed O t):=by rw[aj];exact bh.drew
   have ae:bM P2 w2 s:=by rw[aj];exact bc.drew
   have nA:∀x,A x\/R2 x->x<w2.heap.size/\¬P2 x:=fun x hx=>by
    have h0:=HJ.out.1.ro HH.out.1
    rcases hx with hx|hx
    ·exact ⟨aO5 (h0 x hx).1 L2.fr.size,fun U=>(L2.up x U).elim (h0 x hx).2 fun h=>absurd h.1 (by have:=(h0 x hx).1;omega)⟩
    ·exact ⟨(L2.rn x hx).2,fun U=>L2.dr x U hx⟩
   have k3:bB (fun x=>A x\/R2 x) (fun x=>A x\/R2 x) w2 s:=fun x hx hl=>⟨hx,ae.block x hl (nA x hx).2⟩
   have aa:=lA k3 J am
   have Q:Hid (Laid A ns (Up P w wr) kb wr kj 6 E1 r g P2 R2 w2 O/\bM P2 w2 s/\eK E1 ns P2 s kb (zeroed O t)/\fH (fun x=>A x\/R2 x) 6 s r g/\eS ns 6 r/\r.there=(t:Int)/\r.first=(f0:Int)/\m=r.states.length/\(∀x,A x\/R2 x->x<w2.heap.size/\¬P2 x)/\f0<m/\O.net.places≤(zeroed O t).net.places):=⟨L2,ae,an,fH.carry 6 k3 r g L2.rg,L2.ok,ht,al,hm,nA,by have:=ag.f.2;omega,Int.le_refl _⟩
   have az:Hid (Z=((Em.aJ 6).goOn r (t:Int) (Em.eC (List.replicate m []) (f0:Int) p false) >>= fun _=>Em.rI p (ls.drop (j+1))) (zeroed O t)):=by
    rw[Hid,HJ.out.2.1,Dm hz ht,ht,al,<-hm]
   have bp:m≤1000000:=by rw[hm];exact ag.n
   have s0:=aF aa 0 (u:=.slice aS m cS) rfl
   have s2:=aF aa 2 (u:=.int .i64 (f0:Int)) rfl
   have s3:=aF aa 3 (u:=.int .i64 (t:Int)) rfl
   have bn:Hid (s.heap[g]?=some (.cells #[.slice aS m cS,vo,.int .i64 (f0:Int),.int .i64 (t:Int),.bool r.idle,.bool r.leaves] 188 (0,0))/\(A g\/R2 g)):=⟨aa,J⟩
   clear h2 hz L2 am J hS be bm ag bw ht al hm bb ak br bh bc an ae nA k3 aa y bi c0
   go_region
   all_goals
    rw[<-aj]
    clear aj b1 b2 b3 g3 bf
    obtain ⟨W4,ab⟩:=gQx (s.alloc (.cells (Array.replicate m (Value.slice none 0 0)) 238))
    obtain ⟨b0,ah⟩:=gQx s.heap.size
    have ay:Below s.heap.size s W4:=by rw[ab];exact aL _ _
    have ao:xE (fun x=>x=b0) W4 b0 (List.replicate m []) 0:=Q9 (by rw[ab,ah,List.toArray_replicate];exact aX s _)
    have bo:∀W,(Instr.makeSlice 190 (.int .i64 (m:Int)) (.int .i64 (m:Int))).run prog W=.ok (.slice (some ⟨W.heap.size,0,none⟩) m m) (W.alloc (.cells (List.replicate m (Value.slice none 0 0)).toArray 238)):=fun W=>Rh W m bp
    have ac:=tM (i:=f0) p false ao (by rw[List.length_replicate];exact Q.out.2.2.2.2.2.2.2.2.2.1) (by omega)
    rw[List.length_replicate] at ac
    have q2:=aN ay s2
    have D:Hid (Below s.heap.size s W4/\b0=s.heap.size/\xE (fun x=>x=b0) W4 b0 (List.replicate m []) 0/\W4.heap.size=s.heap.size+1):=⟨ay,ah,ao,by rw[ab];simp⟩
    clear ay ao s2 s3
    go_upto_region 7 with fail
    rw[<-ab,<-ah]
    clear ab ah bo s0
    go_upto_region 8 with (go_at_call 117;refine ac.mono ?_;rintro e w5 ⟨rfl,h5⟩)
    have Y:Below s.heap.size s w5:=D.out.1.trans (h5.out.2.below (B:=s.heap.size) (by have:=D.out.2.2.2;omega) fun x hx=>by rw[hx,D.out.2.1];exact aO4 _)
    have hsz:w2.heap.size≤s.heap.size:=Q.out.2.1.size
    have ax:=aH7 HJ.out.2.2.1 6 (A:=fun x=>A x\/R2 x) (kb:=kb) (ns:=ns) (P:=P2) (T:=Up (fun x=>x=b0) W4 w5) (w:=w5) (k:=zeroed O t) (r:=r) (g:=g) (b:=b0) (here:=(t:Int)) (t:=Em.eC (List.replicate m []) (f0:Int) p false) (c:=0+1) (fH.carry 6 (fun x hx hl=>⟨hx,Y.block x hl⟩) r g Q.out.2.2.2.1) Q.out.2.2.2.2.1 (Q.out.2.2.1.below Y) h5.out.1 (fun x hx I=>by
     have X:=Q.out.2.2.1.2.2 x hx
     rcases I with I|I
     ·rw[I,D.out.2.1] at X;omega
     ·have:=D.out.2.2.2;omega) (fun x hx=>⟨by have:=(Q.out.2.2.2.2.2.2.2.2.1 x hx).1;have:=Y.size;omega,fun I=>by
     have X:=Q.out.2.2.2.2.2.2.2.2.1 x hx
     rcases I with I|I|I
     ·exact X.2 I
     ·rw[I,D.out.2.1] at X;omega
     ·have:=D.out.2.2.2;omega⟩) (by rw[nJ,List.length_replicate];exact Q.out.2.2.2.2.2.2.2.1) (by omega)
    have HT:Hid (∀e w6,nK E1 ns P2 (Up (fun x=>x=b0) W4 w5) kb w5 (zeroed O t) ((Em.aJ 6).goOn r (t:Int) (Em.eC (List.replicate m []) (f0:Int) p false) (zeroed O t)) e w6->(e=Vl/\Hid ((Em.aJ 6).goOn r (t:Int) (Em.eC (List.replicate m []) (f0:Int) p false) (zeroed O t)=none)/\Hid (bM P w w6))\/∃k5,e=.returned (.tuple #[])/\Hid ((Em.aJ 6).goOn r (t:Int) (Em.eC (List.replicate m []) (f0:Int) p false) (zeroed O t)=some ((),k5))/\Hid (At E1 ns P kb w k w6 k5)):=fun e w6 hG=>
     Ox HP.out HJ.out.1.2.1 HJ.out.1.2.2 Q.out.1 Q.out.2.1 Q.out.2.2.2.2.2.2.2.2.2.2 (nK.ran Y Q.out.2.2.1.2.2 (fun x hx=>by
      rcases hx with hx|hx
      ·rw[hx,D.out.2.1];exact aO4 _
      ·have:=D.out.2.2.2;omega) hG)
    have hs:(Em.aJ 6).size r=m:=Q.out.2.2.2.2.2.2.2.1.symm
    rw[hs] at ax
    have q3:=aF (aD Y bn.out.1) 3 (u:=.int .i64 (t:Int)) rfl
    clear Y hsz h5 ac q2 hs
    go_wp2_with (go_at_call 118;refine ax.mono ?_;intro e w6 h6;rcases HT.out _ _ h6 with ⟨rfl,h0,X⟩|⟨k6,rfl,h0,X⟩;(· exact ⟨rfl,.inl ⟨rfl,az.out.trans (aH h0.out),X⟩⟩);have HN:Hid (Z=Em.rI p (ls.drop (j+1)) k6/\At E1 ns P kb w k w6 k6):=⟨az.out.trans (bind_some h0.out),X.out⟩;clear h0 X h6 ax)
    go_roundg (n-(j+1))
    case measure=>omega
    case rel=>exact ⟨j+1,k6,rfl,by omega,by go_num,HN.out.1,by rw[<-HJ.out.2.2.2];exact HN.out.2⟩
  ·have HF:Hid (fJ EE ns P kb w k Z (fun _=>.tuple #[]) (.returned (.tuple #[])) wr):=by
    have bj:j=n:=by omega
    have he:ls.take j=ls:=List.take_of_length_le (by rw[bj,HH.out.2.1];exact aO4 _)
    rw[he,<-HE.out.1] at hA
    refine At.ends (a:=()) hA ?_
    rw[af,aX1 (by rw[<-HH.out.2.1];omega)]
    rfl
   clear hr af hA
   go_wp2_with fail
   go_end0
   exact HF.out
end
end Ew
end
section
open Go.RowKit Px
theorem yJ {ρ:Type}{vs:List bQ}{R:List ρ->Nat->I4}{l:List (cF ρ)}{n m:Nat}(h:pE vs R l n=.ok m):jC l=1:=by
 unfold pE at h
 split at h
 ·exact absurd h (by simp)
 ·split at h
  ·exact absurd h (by simp)
  ·rename_i j
   have j:dD l=0:=by omega
   unfold dD at j
   split at j
   ·simp at j
   ·split at j
    ·simp at j
    ·omega
theorem uQ {α:Type}{f:α->Nat}:∀{l:List α},(∀a∈l,1≤f a)->l.length≤gY f l
 | [],_=>aO4 _
 | a::r,h=>by
  have h1:=h a (List.mem_cons_self ..)
  have h2:=uQ (l:=r) fun b hb=>h b (List.mem_cons_of_mem _ hb)
  rw[gY,aV8];omega
theorem D9 {vs:List bQ}:∀{k:Nat}{l:List (St k)}{n m:Nat},nB vs k l n=.ok m->1≤Y4 k l
 | 0,l,n,m,h=>by simp[nB] at h
 | k+1,l,n,m,h=>by
  have h1:=yJ (show pE vs (nB vs k) l n=.ok m from h)
  have h2:(List.filter (fun s:cF (St k)=>s.first) l).length≤l.length:=List.length_filter_le _ _
  have h3:l.length≤Y4 (k+1) l:=yB (Cz (k+1)) l
  unfold jC at h1
  omega
theorem Rx {vs:List bQ}:∀{k:Nat}{l:List (St k)}{n m:Nat},nB vs k l n=.ok m->(∀x∈l,He k x)->Y4 k l≤1000000->vW k l
 | 0,l,n,m,h,_,_=>by simp[nB] at h
 | k+1,l,n,m,h,hN,hc=>by
  have hr:=show pE vs (nB vs k) l n=.ok m from h
  obtain ⟨⟨o,_,hd,ht⟩,hs⟩:=Wl hr
  have h3:l.length≤Y4 (k+1) l:=yB (Cz (k+1)) l
  refine ⟨yJ hr,hd,ht,by omega,fun s hs'=>?_⟩
  obtain ⟨hn,hi⟩:=hN s hs'
  obtain ⟨n1,_,_,_,_,n2,n3⟩:=hn
  have h4:1+Cz (k+1) s≤Y4 (k+1) l:=yA (fun x:St (k+1)=>1+Cz (k+1) x) hs'
  have h5:Cz (k+1) s=gY (Y4 k) (cF.regions s):=rfl
  obtain ⟨n',m',hq⟩:=hs s hs'
  have h6:(cF.regions s).length≤gY (Y4 k) (cF.regions s):=uQ fun r hr=>by
   obtain ⟨n',m',hq'⟩:=mZ hq r hr
   exact D9 hq'
  refine ⟨n1,n3,by omega,fun y hy=>(n2 y hy).1,fun r hr=>?_⟩
  obtain ⟨n',m',hq'⟩:=mZ hq r hr
  have h7:=yA (Y4 k) hr
  exact Rx hq' (hi r hr) (by omega)
theorem G9 {c:fZ}(h:gI c=none) (u:qZ c):(∀r∈c.regions,vW 6 r)/\c.regions.length≤1000000:=by
 unfold gI at h
 split at h
 ·exact absurd h (by simp)
 ·split at h
  ·exact absurd h (by simp)
  ·split at h
   ·exact absurd h (by simp)
   ·rename_i m hm
    refine ⟨fun r j=>?_,?_⟩
    ·obtain ⟨n,m,s⟩:=mZ hm r j
     have:=yA (Y4 6) j
     have:=u.many
     exact Rx s (u.sts r j) (by omega)
    ·have:=uQ (f:=Y4 6) (l:=c.regions) fun r j=>by
      obtain ⟨n,m,s⟩:=mZ hm r j
      exact D9 s
     have:=u.many
     omega
def Hf:E->Prop
 | .nil=>True
 | .node _ _ a l r=>jF a.num/\Hf l/\Hf r
def vV (l:List iY):Prop:=∀a∈l,Hf a.e
def Zv {ρ:Type}(s:cF ρ):Prop:=vV s.enter/\vV s.during/\vV s.leave/\Hf s.rests/\∀y∈s.ways,Hf y.cond/\vV y.sets
def Vb:(k:Nat)->St k->Prop
 | 0=>fun _=>True
 | k+1=>fun s=>Zv s/\∀r∈cF.regions s,∀x∈r,Vb k x
theorem sG.of:∀{e:E},C0 e->Hf e->sG e
 | .nil,_,_=>trivial
 | .node _ _ _ _ _,h,k=>⟨h.1,k.1,sG.of h.2.1 k.2.1,sG.of h.2.2 k.2.2⟩
theorem Yc {ns:List bE}{s:bE}(h:(jT ns s).isNone=false):s∈ns:=by
 cases hf:jT ns s with
 | none=>rw[hf] at h;simp at h
 | some i=>
  obtain ⟨j,l,_⟩:=tQ hf
  rw[<-l,iO,aN4 j]
  exact aY3 j
theorem D5 {vs:List bQ}:∀{l:List iY},cY vs l=0->∀a∈l,nD vs a=0
 | [],_,a,h=>by simp at h
 | b::r,h,a,ha=>by
  rw[cY] at h
  split at h
  ·rename_i hb;exact absurd h hb
  ·rename_i hb
   rcases aW5.1 ha with rfl|ha
   ·omega
   ·exact D5 h a ha
theorem sV {vs:List bQ}{l:List iY}(h:cY vs l=0) (hn:mD l) (hb:vV l):qE (cG vs) l:=fun a ha=>by
 have h1:=D5 h a ha
 unfold nD at h1
 split at h1
 ·simp at h1
 ·rename_i h2
  simp only[Bool.or_eq_true,not_or,Bool.not_eq_true] at h2
  exact ⟨Yc h2.1,(hn a ha).1,sG.of (hn a ha).2 (hb a ha)⟩
theorem C2 {vs:List bQ}{ns:List bE}{b:Bool}:∀{l:List Wy},lF vs ns b l=0->∀y∈l,nO vs ns b y=0
 | [],_,y,h=>by simp at h
 | z::r,h,y,hy=>by
  rw[lF] at h
  split at h
  ·rename_i hb;exact absurd h hb
  ·rename_i hb
   rcases aW5.1 hy with rfl|hy
   ·omega
   ·exact C2 h y hy
theorem Jm {vs:List bQ}{ns:List bE}{b:Bool}{y:Wy}(h:nO vs ns b y=0):cY vs y.sets=0:=by
 unfold nO at h
 split at h
 ·simp at h
 ·split at h
  ·simp at h
  ·split at h
   ·simp at h
   ·exact h
theorem X6 {ρ:Type}{vs:List bQ}{ns:List bE}{s:cF ρ}(h:zO vs ns s=0):cY vs s.enter=0/\cY vs s.during=0/\cY vs s.leave=0/\∃b,lF vs ns b s.ways=0:=by
 unfold zO at h
 split at h
 ·simp at h
 ·split at h
  ·rename_i hb;exact absurd h hb
  ·split at h
   ·rename_i hb;exact absurd h hb
   ·split at h
    ·rename_i hb;exact absurd h hb
    ·split at h
     ·simp at h
     ·exact ⟨by omega,by omega,by omega,_,h⟩
theorem aA6 {ρ:Type}{vs:List bQ}{ns:List bE}{i:Nat}{s:cF ρ}(h:jH vs ns i s=0) (u:I5 s) (hb:Zv s) (n:s.regions.length≤maxLen):oJ (cG vs) s:=by
 unfold jH at h
 split at h
 ·simp at h
 ·obtain ⟨a1,D,J,b,a4⟩:=X6 h
  obtain ⟨_,I,O,n3,n4,n5,n6⟩:=u
  obtain ⟨l,r,b3,b4,b5⟩:=hb
  exact ⟨sV a1 I l,sV D O r,sV J n3 b3,sG.of n4 b4,fun y j=>⟨sG.of (n5 y j).2.1 (b5 y j).1,sV (Jm (C2 a4 y j)) (n5 y j).2.2 (b5 y j).2⟩,by unfold maxLen;omega,n⟩
theorem o7 {vs:List bQ}:∀{k:Nat}{l:List (St k)}{n m:Nat},nB vs k l n=.ok m->(∀x∈l,He k x)->(∀x∈l,Vb k x)->vW k l->rO (cG vs) k l
 | 0,_,_,_,_,_,_,_=>trivial
 | k+1,l,n,m,h,hN,hB,hL=>by
  have hr:=show pE vs (nB vs k) l n=.ok m from h
  obtain ⟨_,_,_,_,hl⟩:=hL
  intro s hs
  have hst:∃m',gA vs (nB vs k) (bD (ρ:=St k) l) l 0 n=.ok m':=by
   unfold pE at hr
   split at hr
   ·exact absurd hr (by simp)
   ·rename_i m' u;exact ⟨m',u⟩
  obtain ⟨m',u⟩:=hst
  obtain ⟨⟨i,J⟩,Q,D,O⟩:=rR u s hs
  obtain ⟨_,_,Y,_,I⟩:=hl s hs
  refine ⟨aA6 J (hN s hs).1 (hB s hs).1 (by unfold maxLen;omega),fun r j=>?_⟩
  obtain ⟨X,U,y⟩:=mZ O r j
  exact o7 y ((hN s hs).2 r j) ((hB s hs).2 r j) (I r j)
theorem Gk {c:fZ}(h:gI c=none) (l:qZ c) (hB:∀r∈c.regions,∀x∈r,Vb 6 x):Vi c:=by
 obtain ⟨u,y⟩:=G9 h l
 refine ⟨l.vars,l.names,by unfold maxLen;omega,?_⟩
 unfold gI at h
 split at h
 ·exact absurd h (by simp)
 ·split at h
  ·exact absurd h (by simp)
  ·split at h
   ·exact absurd h (by simp)
   ·rename_i m hm
    intro r j
    obtain ⟨n,m,s⟩:=mZ hm r j
    exact o7 s (l.sts r j) (hB r j) (u r j)
end
section
open Go.RowKit Px
namespace Kx
theorem wM {e:E}(h:Sh.TE e):Hf e:=by
 induction e with
 | nil=>trivial
 | node b o a l r ihl ihr=>
  obtain ⟨u,y,s,D,_,j,n⟩:=h
  exact ⟨s,ihl j,ihr n⟩
theorem nbS {l:List iY}(h:Sh.TS l):vV l:=fun a ha=>wM (h a ha).1
theorem aR3:∀(k:Nat) (x:St k),Sh.Yx k x->Vb k x:=by
 intro k
 induction k with
 | zero=>intro x _;trivial
 | succ k ih=>
  intro x h
  obtain ⟨O,I,s,J,u,l,n⟩:=h
  exact ⟨⟨nbS I,nbS s,nbS J,wM u,fun y j=>⟨wM (l y j).2.2.1,nbS (l y j).2.2.2.1⟩⟩,fun r D y j=>ih y (n r D y j)⟩
theorem Hz {L:List Lx.fQ}(u:Wf L) {c:fZ}(h:dJ L=.ok c):(∀r∈c.regions,∀x∈r,Vb 6 x)/\∀v∈c.vars,jF v.first:=by
 obtain ⟨l,n,y⟩:=Sh.V4 u h
 exact ⟨fun r s x hx=>aR3 6 x (n r s x hx),fun v j=>⟨(l v j).1.2.2.1,(l v j).1.2.2.2⟩⟩
structure aN6 (c:fZ):Prop where
 ok:gI c=none
 nm:qZ c
 run:Vi c
 n64:∀v∈c.vars,jF v.first
theorem aQ8 {s:ByteArray}{l:List Lx.fQ}{c:fZ}(hok:Lx.Ok (bs s) l) (hch:dJ (fin s l)=.ok c) (h:gI c=none):aN6 c:=
 ⟨h,O6 (xN hok) hch,Gk h (O6 (xN hok) hch) (Hz (xN hok) hch).1,(Hz (xN hok) hch).2⟩
end Kx
end
section
open Go.RowKit Px
namespace Ew
theorem mC {α:Type}(f:α->Nat):∀l:List α,Sh.fU f l=(l.map f).sum
 | []=>rfl
 | a::r=>by rw[Sh.fU,mC f r];rfl
theorem J2 {α:Type}{f g:α->Nat}:∀{l:List α},(∀a∈l,f a≤g a)->(l.map f).sum≤(l.map g).sum
 | [],_=>aO4 _
 | a::r,h=>by
  have h1:=h a (by simp)
  have h2:=J2 (l:=r) fun x hx=>h x (by simp[hx])
  simp only[List.map_cons,List.sum_cons]
  omega
theorem xZ {α:Type}{f:α->Nat}:∀{l:List α},(∀a∈l,1≤f a)->l.length≤(l.map f).sum
 | [],_=>aO4 _
 | a::r,h=>by
  have h1:=h a (by simp)
  have h2:=xZ (l:=r) fun x hx=>h x (by simp[hx])
  simp only[List.map_cons,List.sum_cons,aV8]
  omega
theorem Oo:∀(d:Nat) (l:List (St d)),iG d l≤Sh.wR (Sh.jG d) l
 | 0,l=>by show 1≤1+Sh.fU (Sh.jG 0) l;omega
 | d+1,l=>by
  show 1+(List.map (jG (iG d)) (show List (cF (St d)) from l)).sum≤1+Sh.fU (Sh.lG (Sh.jG d)) (show List (cF (St d)) from l)
  rw[mC]
  refine Nat.add_le_add_left (J2 fun s _=>?_) 1
  have h1:s.ways.length≤Sh.fU Sh.wW s.ways:=by rw[mC];exact xZ fun y _=>by unfold Sh.wW;omega
  have h2:(s.regions.map (iG d)).sum≤Sh.fU (Sh.wR (Sh.jG d)) s.regions:=by rw[mC];exact J2 fun r _=>Oo d r
  unfold jG Sh.lG
  omega
theorem O8 {α:Type}(f:α->Nat) {l:List α}{a:α}(h:a∈l):f a≤(l.map f).sum:=by
 induction l with
 | nil=>simp at h
 | cons b r ih=>
  simp only[List.map_cons,List.sum_cons]
  rcases aW5.1 h with rfl|h
  ·omega
  ·have:=ih h;omega
theorem Z6:∀(d:Nat) (l:List (St d)),(∀x∈l,Sh.Yx d x)->Sh.wR (Sh.jG d) l≤1000000->rN d l
 | 0,_,_,_=>trivial
 | d+1,l,h,hw=>by
  intro s hs
  obtain ⟨h0,h1,h2,h3,h4,h5,h6⟩:Sh.B8 (Sh.Yx d) s:=h s hs
  have hw':1+Sh.fU (Sh.lG (Sh.jG d)) (show List (cF (St d)) from l)≤1000000:=hw
  rw[mC] at hw'
  have hm:=O8 (Sh.lG (Sh.jG d)) (l:=(show List (cF (St d)) from l)) hs
  have e:Sh.lG (Sh.jG d) s=1+Sh.wS s.enter+Sh.wS s.during+Sh.wS s.leave+Sh.wE s.rests+Sh.fU Sh.wW s.ways+Sh.fU (Sh.wR (Sh.jG d)) s.regions:=rfl
  have a1:=Sh.On s.during
  have a2:=Sh.On s.leave
  refine ⟨by omega,by omega,fun y hy=>by have:=(h5 y hy).2.1;omega,fun r hr=>Z6 d r (fun x hx=>h6 r hr x hx) ?_⟩
  have:=O8 (Sh.wR (Sh.jG d)) hr
  rw[<-mC] at this
  omega
structure Xj (c:fZ):Prop where
 run:Kx.aN6 c
 tm:∀r∈c.regions,rN 6 r
 lay:∀r∈c.regions,vW 6 r
 few:c.vars.length+(c.regions.map (iG 6)).sum≤1000
theorem emC {s:ByteArray}{l:List Lx.fQ}{c:fZ}(j:Lx.Ok (bs s) l) (u:dJ (fin s l)=.ok c) (h:gI c=none):Xj c:=by
 obtain ⟨I,y,D⟩:=Sh.V4 (xN j) u
 have n:=Kx.aQ8 j u h
 rw[mC] at D
 refine ⟨n,fun r n=>Z6 6 r (y r n) ?_,(G9 h n.nm).1,?_⟩
 ·have:=O8 (Sh.wR (Sh.jG 6)) n;omega
 ·have:=J2 (f:=iG 6) (g:=Sh.wR (Sh.jG 6)) (l:=c.regions) fun r _=>Oo 6 r;omega
open Px.Em (Kd Vr eQ eR jP Rg cX)
open Nx (Nt Sp eJ)
theorem Xs (v:Value) (w:World):(Instr.typeAssert (.iface 86 v) 20 86 true).run prog w=.ok (.tuple #[v,.bool true]) w:=by kernel_rfl
def ZN:Array Value:=#[.int .i64 0,.slice none 0 0,.slice none 0 0,.slice none 0 0,.slice none 0 0,.slice none 0 0,.slice none 0 0]
theorem Y7 (h n:Addr) (w:World) :
    CallsD prog 69 #[.pointer (some h),.pointer (some n)] .returning w fun e u' w'=>e=.returned (.tuple #[])/\u'=.returning/\w'=w:=by
 refine callsD_of_wpS Tryz.func69 rfl fun l cs j=>?_
 apply wpS_seq
 apply wpS_region
 simp[wpOpsS,go_sem,recoverD,j,Tryz.ntmps69,Exit.thenS]
 apply wpS_of_wp
 go_wp2
 cases l
 simp_all [bodyPostS,results,Tryz.results69]
theorem rG (h n:Nat) (w:World) (j:List PanicEntry) (Y:w.cell? ⟨h,0,none⟩=some (.int .i64 0)) (l:∀o,1≤o->o≤6->w.cell? ⟨h,o,none⟩=some (.slice none 0 0)) (kf:∀o,w.frozen? ⟨h,o,none⟩=false) (O:w.cell? ⟨n,0,none⟩=some .nilIface) (J:w.frozen? ⟨n,0,none⟩=false) (u:h≠n) :
    CallsD prog 69 #[.pointer (some ⟨h,0,none⟩),.pointer (some ⟨n,0,none⟩)] (.panicking ({ v:=.iface 86 (.int .i64 4),recovered:=false }::j)) w fun e u' w'=>e=.returned (.tuple #[])/\u'=.panicking ({ v:=.iface 86 (.int .i64 4),recovered:=true }::j)/\w'=(((((((w.setCell ⟨h,0,none⟩ (.int .i64 0)).setCell ⟨h,1,none⟩ (.slice none 0 0)).setCell ⟨h,2,none⟩ (.slice none 0 0)).setCell ⟨h,3,none⟩ (.slice none 0 0)).setCell ⟨h,4,none⟩ (.slice none 0 0)).setCell ⟨h,5,none⟩ (.slice none 0 0)).setCell ⟨h,6,none⟩ (.slice none 0 0)).setCell ⟨n,0,none⟩ (.iface 86 (.int .i64 4)):=by
 have I:=l 1 (by omega) (by omega)
 have U:=l 2 (by omega) (by omega)
 have X:=l 3 (by omega) (by omega)
 have k4:=l 4 (by omega) (by omega)
 have Z:=l 5 (by omega) (by omega)
 have Q:=l 6 (by omega) (by omega)
 clear l
 refine callsD_of_wpS Tryz.func69 rfl fun s cs y=>?_
 apply wpS_seq
 apply wpS_region
 simp[wpOpsS,go_sem,recoverD,y,Tryz.ntmps69,Exit.thenS]
 have r:∀(V a b:Value),(#[a,b]++((Array.replicate 17 undef).setIfInBounds 3 V).setIfInBounds 0 V:Array Value)=#[a,b,V,undef,undef,V,undef,undef,undef,undef,undef,undef,undef,undef,undef,undef,undef,undef,undef]:=fun _ _ _=>rfl
 rw[r]
 apply wpS_of_wp
 have D:=Xs (.int .i64 4)
 go_wp2
 cases s
 simp_all [bodyPostS,results,Tryz.results69]
theorem We:(prog.info? 26).map (·.size)=some 7:=by kernel_rfl
theorem xG {W:World}{g:Nat}{fc:Array Value}(hsz:fc.size=7) (hg:W.heap[g]?=some (.cells fc 26 (0,0))):(loadVar 26 ⟨g,0,none⟩).run prog W=.ok (.agg fc) W:=
 run_loadVar_row (P:=prog) W g 26 26 fc (0,0) _ hg Tryz.underlying26 rfl (by rw[hsz];exact We)
theorem yI (h:Array Value) (W:World) (c e:Nat) (j:Array Value) (v:Value) (hsz:j.size=7) (l:h[2]?.getD undef=.pointer (some ⟨c,0,none⟩)) (r:h[3]?.getD undef=.pointer (some ⟨e,0,none⟩)) (n:W.heap[c]?=some (.cells j 26 (0,0))) (s:W.heap[e]?=some (.cells #[v] 33 (0,0))) :
    (results Tryz.f38 h).run prog W=.ok (.tuple #[.agg j,v]) W:=by
 simp[results,Tryz.results38,l,r,asAddr,xG hsz n,Rq s]
theorem gJ {W:World}{g:Nat}{T:TypeId}{f:Nat×Nat}{a0 a1 l j a4 a5 n:Value}(h:W.heap[g]?=some (.cells #[a0,a1,l,j,a4,a5,n] T f)):W.cell? ⟨g,0,none⟩=some a0/\W.cell? ⟨g,1,none⟩=some a1/\W.cell? ⟨g,2,none⟩=some l/\W.cell? ⟨g,3,none⟩=some j/\W.cell? ⟨g,4,none⟩=some a4/\W.cell? ⟨g,5,none⟩=some a5/\W.cell? ⟨g,6,none⟩=some n:=by
 refine ⟨?_,?_,?_,?_,?_,?_,?_⟩<;>(rw[cell_of_row _ _ _ _ _ _ h];rfl)
theorem aA9 {w2:World}{c e:Nat}{a0 a1 D I a4 a5 J v O:Value}(hc:w2.heap[c]?=some (.cells ZN 26 (0,0))) (he:w2.heap[e]?=some (.cells #[O] 33 (0,0))) (n:c≠e) {w3:World}(X:w3=(((((((w2.setCell ⟨c,0,none⟩ a0).setCell ⟨c,1,none⟩ a1).setCell ⟨c,2,none⟩ D).setCell ⟨c,3,none⟩ I).setCell ⟨c,4,none⟩ a4).setCell ⟨c,5,none⟩ a5).setCell ⟨c,6,none⟩ J).setCell ⟨e,0,none⟩ v) :
    w3.heap[c]?=some (.cells #[a0,a1,D,I,a4,a5,J] 26 (0,0))/\w3.heap[e]?=some (.cells #[v] 33 (0,0))/\(∀k,k≠c->k≠e->w3.heap[k]?=w2.heap[k]?)/\(∀B a,Below B a w2->B≤c->B≤e->Below B a w3):=by
 have h0:=cH (l:=[.int .i64 0,.slice none 0 0,.slice none 0 0,.slice none 0 0,.slice none 0 0,.slice none 0 0,.slice none 0 0]) hc 0 a0
 have h1:=cH (l:=[a0,.slice none 0 0,.slice none 0 0,.slice none 0 0,.slice none 0 0,.slice none 0 0,.slice none 0 0]) h0 1 a1
 have Y:=cH (l:=[a0,a1,.slice none 0 0,.slice none 0 0,.slice none 0 0,.slice none 0 0,.slice none 0 0]) h1 2 D
 have h3:=cH (l:=[a0,a1,D,.slice none 0 0,.slice none 0 0,.slice none 0 0,.slice none 0 0]) Y 3 I
 have h4:=cH (l:=[a0,a1,D,I,.slice none 0 0,.slice none 0 0,.slice none 0 0]) h3 4 a4
 have h5:=cH (l:=[a0,a1,D,I,a4,.slice none 0 0,.slice none 0 0]) h4 5 a5
 have h6:=cH (l:=[a0,a1,D,I,a4,a5,.slice none 0 0]) h5 6 J
 have y:∀(W:World) (j:Nat) (u:Value) (k:Nat),k≠c->(W.setCell ⟨c,j,none⟩ u).heap[k]?=W.heap[k]?:=fun W j u k hk=>Below.heap_setCell _ _ _ _ hk
 have Z:(((((((w2.setCell ⟨c,0,none⟩ a0).setCell ⟨c,1,none⟩ a1).setCell ⟨c,2,none⟩ D).setCell ⟨c,3,none⟩ I).setCell ⟨c,4,none⟩ a4).setCell ⟨c,5,none⟩ a5).setCell ⟨c,6,none⟩ J).heap[e]?=some (.cells #[O] 33 (0,0)):=by
  rw[y _ _ _ _ (Ne.symm n),y _ _ _ _ (Ne.symm n),y _ _ _ _ (Ne.symm n),y _ _ _ _ (Ne.symm n),y _ _ _ _ (Ne.symm n),y _ _ _ _ (Ne.symm n),y _ _ _ _ (Ne.symm n)];exact he
 have bl:∀(B:Nat) (a W:World) (j:Nat) (u:Value),Below B a W->B≤c->Below B a (W.setCell ⟨c,j,none⟩ u):=fun B a W j u h hB=>h.setCell (p:=⟨c,j,none⟩) hB u
 rw[X]
 refine ⟨?_,?_,fun k s U=>?_,fun B a hb r Q=>?_⟩
 ·rw[Below.heap_setCell _ _ _ _ n];exact h6
 ·exact cH (l:=[O]) Z 0 v
 ·rw[Below.heap_setCell _ _ _ _ U,y _ _ _ _ s,y _ _ _ _ s,y _ _ _ _ s,y _ _ _ _ s,y _ _ _ _ s,y _ _ _ _ s,y _ _ _ _ s]
 ·exact (bl _ _ _ _ _ (bl _ _ _ _ _ (bl _ _ _ _ _ (bl _ _ _ _ _ (bl _ _ _ _ _ (bl _ _ _ _ _ (bl _ _ _ _ _ hb r) r) r) r) r) r) r).setCell (p:=⟨e,0,none⟩) Q v
theorem lX:∀(vs:List bQ) (k:Kd),∃k',Em.dR vs k=some ((),k')
 | [],k=>⟨k,rfl⟩
 | v::r,k=>by
  by_cases h1:v.kind=1
  ·rw[It h1];exact lX r _
  ·by_cases h2:v.kind=2
   ·rw[Cb h2];exact lX r _
   ·rw[Ca h1 h2];exact lX r _
theorem uD {c:fZ}{k1:Kd}(h:Em.dR c.vars Em.kd0=some ((),k1)):Em.uE c=((Em.tick c.regions >>= fun _=>Em.dN c.vars) k1).map (·.2.net):=by
 show ((Em.dR c.vars >>= fun _=>Em.tick c.regions >>= fun _=>Em.dN c.vars) Em.kd0).map (·.2.net)=_
 rw[I0 h]
section
variable {w:World}{ns:List bE}
theorem aE2 {mv h kb n:Nat}(J:ns.length=n) (Q:n≤100000) (X:h=mv+1) (I:kb=mv+2) (j:w.heap[kb]?=some (.cells #[.int .i64 0,.slice none 0 0,.slice none 0 0,.slice none 0 0,.slice none 0 0,.slice none 0 0,.slice none 0 0,.map (some mv),.map (some h)] 135 (0,0))) (y:Gm.Mp prog 9 w mv 0 (fun _=>none)) (r:Gm.Mp prog 2 w h 0 (fun _=>none)) :
    eK n ns (fun b=>b=mv\/b=h\/b=kb) w kb Em.kd0:=by
 refine ⟨⟨⟨fun _=>.slice none 0 0,mv,h,0,0,fun b=>if b=kb then 0 else if b=mv then 7 else 8⟩,j,fun i U O=>?_,⟨_,y,fun _=>rfl⟩,⟨_,r,fun _=>rfl⟩,⟨.inr (.inr rfl),if_pos rfl⟩,fun i g _ _ l=>by simp[Value.ownBlock] at l,⟨.inl rfl,?_⟩,⟨.inr (.inl rfl),?_⟩,aO4 _,aO4 _,by show mv+2=kb;omega⟩,⟨rfl,?_,aP6 _,aO4 _,aO4 _,aO4 _,aO4 _,by omega,fun x hx=>by simp[Em.kd0] at hx,fun x hx=>by simp[Em.kd0] at hx,fun s=>⟨by show -9223372036854775808≤(0:Int);omega,by show (0:Int)≤9223372036854775807;omega⟩,fun s _=>by show (0:Int)≠-1;omega⟩,fun b hb=>?_⟩
 ·have u:rB Em.kd0.net i=[]:=by unfold rB;split<;>rfl
  have D:pP Em.kd0.net i=0:=by unfold pP;split<;>rfl
  rw[u,D];exact aY7 _ _ _ _
 ·show (if mv=kb then 0 else if mv=mv then 7 else 8)=7
  rw[if_neg (by omega),if_pos rfl]
 ·show (if h=kb then 0 else if h=mv then 7 else 8)=8
  rw[if_neg (by omega),if_neg (by omega)]
 ·show 0+yP ns Em.kd0≤0+n
  have:=An (ns:=ns) (k:=Em.kd0);omega
 ·have:=aB j
  rcases hb with rfl|rfl|rfl<;>omega
end
section
variable {P:Nat->Prop}{w:World}{kb E:Nat}{ns:List bE}{k:Kd}{c:Cv}
structure rE (A:Nat->Prop) (w:World) (n:Nt) (vF vI vO vK vN vC:Value):Prop where
 f:Nx.bH A w vF n.first
 i:Nx.bH A w vI n.ins
 o:Nx.bH A w vO n.outs
 k:Nx.bH A w vK n.keeps
 m:Nx.bH A w vN n.nums
 c:Nx.jA A w vC n.code
theorem rE.carry {A A':Nat->Prop}{w w':World}{n:Nt}{vF vI vO vK vN vC:Value}(h:rE A w n vF vI vO vK vN vC) (k:Nx.bB A A' w w'):rE A' w' n vF vI vO vK vN vC:=⟨h.f.carry k,h.i.carry k,h.o.carry k,h.k.carry k,h.m.carry k,h.c.carry k⟩
theorem rE.netV {A:Nat->Prop}{B:Nat}{w:World}{n:Nt}{vF vI vO vK vN vC:Value}(h:rE A w n vF vI vO vK vN vC) (hA:∀b,A b->b<B):eJ B w n vF vI vO vK vN vC:=
 have h':=h.carry (A':=(· < B)) (w':=w) fun b hb _=>⟨hA b hb,rfl⟩
 ⟨h'.f,h'.i,h'.o,h'.k,h'.m,h'.c⟩
theorem tA {A:Nat->Prop}{t:Nat}{v:Value}{zs:List Int}(h:w.ownsRow 0 t 1 v zs.length (zs.map (Value.int .i64))) (hB:∀g,v.ownBlock=some g->A g):Nx.bH A w v zs:=by
 rcases Nat.eq_zero_or_pos zs.length with l|l
 ·obtain ⟨s,cap,e⟩:=aP h
  exact ⟨s,0,0,cap,e,fun n=>absurd n (by omega),fun k r=>absurd r (by omega)⟩
 ·obtain ⟨g,cap,rfl,_,_⟩:=h.form l
  refine ⟨_,g,0,cap,rfl,fun _=>⟨rfl,hB g rfl⟩,fun j u=>?_⟩
  rw[aX3,h.cellAt j (by omega),aW6,iO,aN4 u]
  rfl
theorem Tg:∀(l:List Sp) (j i:Nat) (s:Sp),l[j]?=some s->i<5->(l.flatMap rS)[j*5+i]?=(rS s)[i]?
 | [],j,i,s,h,_=>by simp at h
 | a::r,0,i,s,h,hi=>by
  have e:a=s:=by simpa using h
  subst e
  rw[List.flatMap_cons,Nat.zero_mul,aX3,aR6 (by simp[rS];omega)]
 | a::r,j+1,i,s,h,hi=>by
  rw[List.flatMap_cons,aW8 (by simp[rS];omega)]
  rw[show (j+1)*5+i-(rS a).length=j*5+i by simp[rS];omega]
  exact Tg r j i s (by simpa using h) hi
theorem s9 {A:Nat->Prop}{t:Nat}{v:Value}{l:List Sp}(h:w.ownsRow 0 t 5 v l.length (l.flatMap rS)) (hB:∀g,v.ownBlock=some g->A g):Nx.jA A w v l:=by
 rcases Nat.eq_zero_or_pos l.length with r|r
 ·obtain ⟨y,cap,e⟩:=aP h
  exact ⟨y,0,0,cap,e,fun s=>absurd s (by omega),fun k u=>absurd u (by omega)⟩
 ·obtain ⟨g,cap,rfl,_,_⟩:=h.form r
  have at':∀j i,j<l.length->i<5->w.cell? ⟨g,0+j*5+i,none⟩=(rS (l.getD j Nx.eD))[i]?:=fun j i n D=>by
   rw[aX3,h.cellAt _ (by omega),Tg l j i (l.getD j Nx.eD) (by rw[iO,aN4 n];rfl) D]
  exact ⟨_,g,0,cap,rfl,fun _=>⟨rfl,hB g rfl⟩,fun j n=>⟨at' j 0 n (by omega),at' j 1 n (by omega),at' j 2 n (by omega),at' j 3 n (by omega),at' j 4 n (by omega)⟩⟩
theorem CM.netA (h:CM P w kb k c):rE P w k.net (c.v 1) (c.v 2) (c.v 3) (c.v 4) (c.v 5) (c.v 6):=
 ⟨tA (h.row 1 (by omega) (by omega)) fun g hg=>(h.pr 1 g (by omega) (by omega) hg).1,tA (h.row 2 (by omega) (by omega)) fun g hg=>(h.pr 2 g (by omega) (by omega) hg).1,tA (h.row 3 (by omega) (by omega)) fun g hg=>(h.pr 3 g (by omega) (by omega) hg).1,tA (h.row 4 (by omega) (by omega)) fun g hg=>(h.pr 4 g (by omega) (by omega) hg).1,tA (h.row 5 (by omega) (by omega)) fun g hg=>(h.pr 5 g (by omega) (by omega) hg).1,s9 (h.row 6 (by omega) (by omega)) fun g hg=>(h.pr 6 g (by omega) (by omega) hg).1⟩
end
structure wV (n:Nt):Prop where
 len:n.places=n.first.length
 few:n.first.length≤1004000
 code:n.code.length≤4000
 keeps:n.keeps.length≤n.first.length
 ins:n.ins.length≤n.first.length
 outs:n.outs.length≤n.first.length
 nums:n.nums.length≤n.code.length
 nf:∀x∈n.first,jF x
 nn:∀x∈n.nums,jF x
theorem rQ.nt {E:Nat}{ns:List bE}{k:Kd}(h:rQ E ns k):wV k.net:=⟨h.len,h.few,h.code,h.keeps,h.ins,h.outs,h.nums,h.nf,h.nn⟩
def aV9 (w:World) (o:Option Nt) (e:Ending) (w':World):Prop:=Below w.heap.size w w'/\((o=none/\e=.returned (.tuple #[.agg ZN,.iface 86 (.int .i64 4)]))\/∃(n:Nt) (vF vI vO vK vN vC:Value),o=some n/\e=.returned (.tuple #[.agg #[.int .i64 n.places,vF,vI,vO,vK,vN,vC],.nilIface])/\rE (fun b=>w.heap.size≤b/\b<w'.heap.size) w' n vF vI vO vK vN vC/\wV n)
theorem Um (M:Int) (w:World):(Instr.makeMap 132 (some (.int .i64 M))).run prog w=.ok (.map (some w.heap.size)) (w.alloc (.map #[] 0)):=by kernel_rfl
theorem Un (w:World):(Instr.makeMap 133 none).run prog w=.ok (.map (some w.heap.size)) (w.alloc (.map #[] 0)):=by kernel_rfl
theorem Dd (w:World) (Q X U:Value):∃W0 W1,W0=((w.alloc (.cells #[Q,X,U] 47)).alloc (.cells ZN 26)).alloc (.cells #[.nilIface] 33)/\
    W1=((W0.alloc (.map #[] 0)).alloc (.map #[] 0)).alloc (.cells #[.int .i64 0,.slice none 0 0,.slice none 0 0,.slice none 0 0,.slice none 0 0,.slice none 0 0,.slice none 0 0,.map (some (w.heap.size+3)),.map (some (w.heap.size+4))] 135)/\
    Below w.heap.size w W0/\W0.heap.size=w.heap.size+3/\Below W0.heap.size W0 W1/\W1.heap.size=w.heap.size+6/\W0.heap[w.heap.size]?=some (.cells #[Q,X,U] 47 (0,0))/\W0.heap[w.heap.size+1]?=some (.cells ZN 26 (0,0))/\W0.heap[w.heap.size+2]?=some (.cells #[.nilIface] 33 (0,0))/\
    W1.heap[w.heap.size+5]?=some (.cells #[.int .i64 0,.slice none 0 0,.slice none 0 0,.slice none 0 0,.slice none 0 0,.slice none 0 0,.slice none 0 0,.map (some (w.heap.size+3)),.map (some (w.heap.size+4))] 135 (0,0))/\Gm.Mp prog 9 W1 (w.heap.size+3) 0 (fun _=>none)/\Gm.Mp prog 2 W1 (w.heap.size+4) 0 (fun _=>none):=by
 obtain ⟨u,D⟩:=gQx (w.alloc (.cells #[Q,X,U] 47))
 obtain ⟨l,j⟩:=gQx (u.alloc (.cells ZN 26))
 obtain ⟨h,y⟩:=gQx (l.alloc (.cells #[.nilIface] 33))
 obtain ⟨J,s⟩:=gQx (h.alloc (.map #[] 0))
 obtain ⟨I,r⟩:=gQx (J.alloc (.map #[] 0))
 obtain ⟨O,n⟩:=gQx (I.alloc (.cells #[.int .i64 0,.slice none 0 0,.slice none 0 0,.slice none 0 0,.slice none 0 0,.slice none 0 0,.slice none 0 0,.map (some (w.heap.size+3)),.map (some (w.heap.size+4))] 135))
 have s1:u.heap.size=w.heap.size+1:=by rw[D];simp
 have s2:l.heap.size=w.heap.size+2:=by rw[j];simp[s1]
 have Z:h.heap.size=w.heap.size+3:=by rw[y];simp[s2]
 have e:J.heap.size=w.heap.size+4:=by rw[s];simp[Z]
 have s5:I.heap.size=w.heap.size+5:=by rw[r];simp[e]
 have s6:O.heap.size=w.heap.size+6:=by rw[n];simp[s5]
 have b1:Below w.heap.size w u:=by rw[D];exact aL _ _
 have b2:Below u.heap.size u l:=by rw[j];exact aL _ _
 have b3:Below l.heap.size l h:=by rw[y];exact aL _ _
 have b4:Below h.heap.size h J:=by rw[s];exact aL _ _
 have b5:Below J.heap.size J I:=by rw[r];exact aL _ _
 have Y:Below I.heap.size I O:=by rw[n];exact aL _ _
 have n1:u.heap[w.heap.size]?=some (.cells #[Q,X,U] 47 (0,0)):=by rw[D];exact aX w _
 have n2:l.heap[w.heap.size+1]?=some (.cells ZN 26 (0,0)):=by rw[<-s1,j];exact aX u _
 have n3:h.heap[w.heap.size+2]?=some (.cells #[.nilIface] 33 (0,0)):=by rw[<-s2,y];exact aX l _
 have n4:Gm.Mp prog 9 J (w.heap.size+3) 0 (fun _=>none):=by rw[<-Z,s];exact Gm.Mp.made _ _ _
 have n5:Gm.Mp prog 2 I (w.heap.size+4) 0 (fun _=>none):=by rw[<-e,r];exact Gm.Mp.made _ _ _
 have n6:O.heap[w.heap.size+5]?=some (.cells #[.int .i64 0,.slice none 0 0,.slice none 0 0,.slice none 0 0,.slice none 0 0,.slice none 0 0,.slice none 0 0,.map (some (w.heap.size+3)),.map (some (w.heap.size+4))] 135 (0,0)):=by rw[<-s5,n];exact aX I _
 refine ⟨h,O,by rw[y,j,D],by rw[n,r,s],aQ (aQ b1 b2) b3,Z,aQ (aQ b4 b5) Y,s6,aD b3 (aD b2 n1),aD b3 n2,n3,n6,n4.keep ((Y.block _ (by omega)).trans (b5.block _ (by omega))),n5.keep (Y.block _ (by omega))⟩
section
variable {A:Nat->Prop}{w:World}
theorem aG7 {c:fZ}{S:ByteArray}{a a':Option Addr}{n m n' m':Nat}(hC:gQ A w c (.agg #[.string S,.slice a n m,.slice a' n' m'])) (hA:∀x,A x->x<w.heap.size) (ac:Xj c) :
 Calls prog 38 #[.agg #[.string S,.slice a n m,.slice a' n' m']] w (aV9 w (Em.uE c)):=by
 obtain ⟨k1,h1⟩:=lX c.vars Em.kd0
 have ca:∀(fn:Fn) (first cap:Array Value) (w:World),(Instr.makeFunc fn first cap).run prog w=.ok (.func fn first cap) w:=fun _ _ _ _=>rfl
 have bz:=Um
 have bv:=Un
 obtain ⟨a0,n0,m0,bu,br,bo,U,hv,hg⟩:=hC
 have q2:Value.slice a n m=.slice a0 n0 m0:=by injection U with U;injection U with U;injection U with _ U;injection U
 have q3:Value.slice a' n' m'=.slice bu br bo:=by injection U with U;injection U with U;injection U with _ U;injection U with _ U;injection U
 rw[<-q2] at hv
 rw[<-q3] at hg
 obtain ⟨nl,az⟩:=gQx c.vars.length
 have bn:=ac.few
 have ax:c.vars.length≤100000:=by omega
 have bg:c.regions.length≤100000:=by have:=xZ (f:=iG 6) (l:=c.regions) (fun r _=>by show 1≤1+_;omega);omega
 have bm:∀x∈c.vars,x.name∈cG c.vars:=fun x hx=>List.mem_map_of_mem hx
 have ag:(cG c.vars).length=nl:=by rw[az];simp[cG]
 obtain ⟨W0,s,bi,bh,ap,bq,ab,bj,x0,x1,x2,y5,y3,y4⟩:=Dd w (.string S) (.slice a n m) (.slice a' n' m')
 have ad:=aE2 (n:=nl) ag (by omega) (by omega) (by omega) y5 y3 y4
 have aw:bB A A w s:=fun x hx hl=>⟨hx,(aQ ap ab).block x hl⟩
 obtain ⟨D,Y⟩:∃D:Nat->Prop,D=fun b=>b=w.heap.size+3\/b=w.heap.size+4\/b=w.heap.size+5:=⟨_,rfl⟩
 rw[<-Y] at ad
 have ay:Ro A D s:=fun x hx=>⟨by have:=hA x hx;omega,fun hp=>by rw[Y] at hp;have:=hA x hx;omega⟩
 have ba:∀b,D b->w.heap.size+3≤b:=fun b hb=>by rw[Y] at hb;omega
 have ah:=Bz (hv.carry aw) ac.run.run.vn ac.run.n64 bm ax (by omega) ad (by show 0+(cG c.vars).length≤0+nl;omega) ay
 have c1:W0.cell? ⟨w.heap.size,1,none⟩=some (.slice a n m):=aF x0 1 rfl
 have u1:=(aD ab x1)
 have u2:=(aD ab x2)
 have u0:=(aD ab x0)
 have d1:s.cell? ⟨w.heap.size,1,none⟩=some (.slice a n m):=aF u0 1 rfl
 have I:Hid (Xj c/\mJ A w c.vars (.slice a n m)/\gP A w (aM A w 6) c.regions (.slice a' n' m')/\Ro A D s/\(∀b,D b->w.heap.size+3≤b)/\bB A A w s/\nl+nl+1+(c.regions.map (iG 6)).sum<1000000/\c.vars.length≤100000/\c.regions.length≤100000/\nl=c.vars.length/\eK nl (cG c.vars) D s (w.heap.size+5) Em.kd0):=⟨ac,hv,hg,ay,ba,aw,by omega,ax,bg,az,ad⟩
 have j:Hid (Below w.heap.size w s/\s.heap.size=w.heap.size+6/\s.heap[w.heap.size]?=some (.cells #[.string S,.slice a n m,.slice a' n' m'] 47 (0,0))/\s.heap[w.heap.size+1]?=some (.cells ZN 26 (0,0))/\s.heap[w.heap.size+2]?=some (.cells #[.nilIface] 33 (0,0))/\¬D w.heap.size/\¬D (w.heap.size+1)/\¬D (w.heap.size+2)):=⟨aQ ap ab,bj,u0,u1,u2,by rw[Y];omega,by rw[Y];omega,by rw[Y];omega⟩
 have H1:Hid (Em.dR c.vars Em.kd0=some ((),k1)):=h1
 clear ac bn ax bg bm az ag hv hg ay ba aw ad Y hA h1 U q2 q3 u0 u1 u2 x1 x2 y3 y4 y5 x0
 go_enter_defers Tryz.func38,Tryz.ntmps38
 go_upto_region 2 with fail
 rw[show ((w.alloc (.cells #[.string S,.slice a n m,.slice a' n' m'] 47)).alloc (.cells #[.int .i64 0,.slice none 0 0,.slice none 0 0,.slice none 0 0,.slice none 0 0,.slice none 0 0,.slice none 0 0] 26)).alloc (.cells #[.nilIface] 33)=W0 from bi.symm]
 rw[show w.heap.size+1+1=w.heap.size+2 from rfl]
 clear bi ap
 go_upto_region 3 with fail
 rw[show w.heap.size+3+1=w.heap.size+4 from rfl,show w.heap.size+4+1=w.heap.size+5 from rfl]
 rw[show (((W0.alloc (.map #[] 0)).alloc (.map #[] 0)).alloc (.cells #[.int .i64 0,.slice none 0 0,.slice none 0 0,.slice none 0 0,.slice none 0 0,.slice none 0 0,.slice none 0 0,.map (some (w.heap.size+3)),.map (some (w.heap.size+4))] 135))=s from bh.symm]
 clear bh ab bq bj c1
 go_upto_region 4 with (go_at_call 70;refine ah.mono ?_;rintro e w2 ⟨rfl,h2⟩)
 obtain ⟨kx,bb,A2⟩:=h2.out
 obtain rfl:kx=k1:=by have:=H1.out;rw[bb] at this;injection this with this;injection this
 have u0:=A2.2.1.heap j.out.2.2.1 j.out.2.2.2.2.2.1
 have d2:w2.cell? ⟨w.heap.size,2,none⟩=some (.slice a' n' m'):=aF u0 2 rfl
 have ao:bB A A w w2:=I.out.2.2.2.2.2.1.trans (A2.keep I.out.2.2.2.1) j.out.1.size
 have J:=xU (I.out.2.2.1.carry ao (aM.carry ao 6)) (fun l hl=>⟨I.out.1.lay l hl,I.out.1.run.run.st l hl,I.out.1.tm l hl⟩) (by rw[<-I.out.2.2.2.2.2.2.2.2.2.1];exact I.out.2.2.2.2.2.2.1) I.out.2.2.2.2.2.2.2.2.1 A2.1 (A2.ro I.out.2.2.2.1)
 have aa:Hid (At (nl+c.vars.length) (cG c.vars) D (w.heap.size+5) s Em.kd0 w2 kx):=A2
 have HP:Hid (∀b,D b->b<s.heap.size):=I.out.2.2.2.2.2.2.2.2.2.2.2.2
 clear ah h2 bb A2 u0 ao d1
 cases h2:Em.tick c.regions kx with
 | none=>
  have H2:Hid (Em.tick c.regions kx=none):=h2
  clear h2
  have ht:Calls prog 71 #[.pointer (some ⟨w.heap.size+5,0,none⟩),.slice a' n' m'] w2 fun e w'=>e=Vl/\Hid (bM (Up D s w2) w2 w'):=J.mono fun e w' h=>by
   rcases h with ⟨rfl,_,h⟩|⟨_,_,_,h,_⟩
   ·exact ⟨rfl,h⟩
   ·rw[Hid,H2.out] at h;exact absurd h (by simp)
  clear J
  go_wp2_with (go_at_call 71;refine ht.mono ?_;rintro e w3 ⟨rfl,h3⟩)
  have HF:Hid (bM D s w3):=aa.out.2.1.up h3.out
  have u1:=HF.out.heap j.out.2.2.2.1 j.out.2.2.2.2.2.2.1
  have u2:=HF.out.heap j.out.2.2.2.2.1 j.out.2.2.2.2.2.2.2
  have ak:Below w.heap.size w w3:=j.out.1.trans (HF.out.below (by have:=j.out.2.1;omega) fun b hb=>by have:=I.out.2.2.2.2.1 b hb;omega)
  refine leaves_cons (f:=69) (args:=#[.pointer (some ⟨w.heap.size+1,0,none⟩),.pointer (some ⟨w.heap.size+2,0,none⟩)]) (by simp) (by simp[go_sem]) ?_
  refine (rG (w.heap.size+1) (w.heap.size+2) w3 [] (aF u1 0 rfl) (fun o h1 h6=>by
   obtain rfl|rfl|rfl|rfl|rfl|rfl:o=1\/o=2\/o=3\/o=4\/o=5\/o=6:=by omega
   all_goals exact aF u1 _ rfl) (fun o=>aG u1 o) (aF u2 0 rfl) (aG u2 0) (by omega)).mono ?_
  rintro e u' bk ⟨rfl,rfl,hw⟩
  obtain ⟨z0,z1,z2,z3⟩:=aA9 u1 u2 (by omega) hw
  exact ⟨_,yI _ _ _ _ _ _ rfl rfl rfl z0 z1,z3 _ _ ak (by omega) (by omega),.inl ⟨by rw[uD H1.out,aH H2.out];rfl,rfl⟩⟩
 | some x=>
  obtain ⟨⟨⟩,k2⟩:=x
  have H2:Hid (Em.tick c.regions kx=some ((),k2)):=h2
  clear h2
  have ht:Calls prog 71 #[.pointer (some ⟨w.heap.size+5,0,none⟩),.slice a' n' m'] w2 fun e w'=>e=.returned (.tuple #[])/\Hid (At (nl+c.vars.length+1+(c.regions.map (iG 6)).sum) (cG c.vars) (Up D s w2) (w.heap.size+5) w2 kx w' k2):=J.mono fun e w' h=>by
   rcases h with ⟨_,h,_⟩|⟨_,_,rfl,h,h'⟩
   ·rw[Hid,H2.out] at h;exact absurd h (by simp)
   ·rw[Hid,H2.out] at h
    injection h with h
    injection h with _ h
    subst h
    exact ⟨rfl,h'⟩
  clear J
  go_upto_region 5 with (go_at_call 71;refine ht.mono ?_;rintro e w3 ⟨rfl,h3⟩)
  have f3:bM D s w3:=aa.out.2.1.up h3.out.2.1
  have u0:=f3.heap j.out.2.2.1 j.out.2.2.2.2.2.1
  have d3:w3.cell? ⟨w.heap.size,1,none⟩=some (.slice a n m):=aF u0 1 rfl
  have bf:bB A A w w3:=I.out.2.2.2.2.2.1.trans (I.out.2.2.2.1.keep f3) j.out.1.size
  have be:=h3.out.ro (aa.out.ro I.out.2.2.2.1)
  have Z:=aD6 (I.out.2.1.carry bf) I.out.1.run.run.vn I.out.2.2.2.2.2.2.2.1 h3.out.1 be
  have af:Hid (bM D s w3/\At (nl+c.vars.length+1+(c.regions.map (iG 6)).sum) (cG c.vars) (Up D s w2) (w.heap.size+5) w2 kx w3 k2):=⟨f3,h3.out⟩
  clear ht h3 f3 u0 bf be d2
  cases h3:Em.dN c.vars k2 with
  | none=>
   have H3:Hid (Em.dN c.vars k2=none):=h3
   clear h3
   have ht:Calls prog 72 #[.pointer (some ⟨w.heap.size+5,0,none⟩),.slice a n m] w3 fun e w'=>e=Vl/\Hid (bM (Up (Up D s w2) w2 w3) w3 w'):=Z.mono fun e w' h=>by
    rcases h with ⟨rfl,_,h⟩|⟨_,_,_,h,_⟩
    ·exact ⟨rfl,h⟩
    ·rw[Hid,H3.out] at h;exact absurd h (by simp)
   clear Z
   go_wp2_with (go_at_call 72;refine ht.mono ?_;rintro e w4 ⟨rfl,h4⟩)
   have HF:Hid (bM D s w4):=aa.out.2.1.up (af.out.2.2.1.up h4.out)
   have u1:=HF.out.heap j.out.2.2.2.1 j.out.2.2.2.2.2.2.1
   have u2:=HF.out.heap j.out.2.2.2.2.1 j.out.2.2.2.2.2.2.2
   have ak:Below w.heap.size w w4:=j.out.1.trans (HF.out.below (by have:=j.out.2.1;omega) fun b hb=>by have:=I.out.2.2.2.2.1 b hb;omega)
   refine leaves_cons (f:=69) (args:=#[.pointer (some ⟨w.heap.size+1,0,none⟩),.pointer (some ⟨w.heap.size+2,0,none⟩)]) (by simp) (by simp[go_sem]) ?_
   refine (rG (w.heap.size+1) (w.heap.size+2) w4 [] (aF u1 0 rfl) (fun o h1 h6=>by
    obtain rfl|rfl|rfl|rfl|rfl|rfl:o=1\/o=2\/o=3\/o=4\/o=5\/o=6:=by omega
    all_goals exact aF u1 _ rfl) (fun o=>aG u1 o) (aF u2 0 rfl) (aG u2 0) (by omega)).mono ?_
   rintro e u' bk ⟨rfl,rfl,hw⟩
   obtain ⟨z0,z1,z2,z3⟩:=aA9 u1 u2 (by omega) hw
   exact ⟨_,yI _ _ _ _ _ _ rfl rfl rfl z0 z1,z3 _ _ ak (by omega) (by omega),.inl ⟨by rw[uD H1.out,bind_some H2.out,H3.out];rfl,rfl⟩⟩
  | some y=>
   obtain ⟨⟨⟩,k3⟩:=y
   have H3:Hid (Em.dN c.vars k2=some ((),k3)):=h3
   clear h3
   have ht:Calls prog 72 #[.pointer (some ⟨w.heap.size+5,0,none⟩),.slice a n m] w3 fun e w'=>e=.returned (.tuple #[])/\Hid (At (nl+c.vars.length+1+(c.regions.map (iG 6)).sum) (cG c.vars) (Up (Up D s w2) w2 w3) (w.heap.size+5) w3 k2 w' k3):=Z.mono fun e w' h=>by
    rcases h with ⟨_,h,_⟩|⟨_,_,rfl,h,h'⟩
    ·rw[Hid,H3.out] at h;exact absurd h (by simp)
    ·rw[Hid,H3.out] at h
     injection h with h
     injection h with _ h
     subst h
     exact ⟨rfl,h'⟩
   clear Z
   go_upto_region 6 with (go_at_call 72;refine ht.mono ?_;rintro e w4 ⟨rfl,h4⟩)
   have f4:bM D s w4:=aa.out.2.1.up (af.out.2.2.1.up h4.out.2.1)
   have u1:=f4.heap j.out.2.2.2.1 j.out.2.2.2.2.2.2.1
   have u2:=f4.heap j.out.2.2.2.2.1 j.out.2.2.2.2.2.2.2
   have an:Below w.heap.size w w4:=j.out.1.trans (f4.below (by have:=j.out.2.1;omega) fun b hb=>by have:=I.out.2.2.2.2.1 b hb;omega)
   obtain ⟨⟨O,X⟩,hF,bc⟩:=h4.out.1
   have HV:Hid (CM (Up (Up (Up D s w2) w2 w3) w3 w4) w4 (w.heap.size+5) k3 O/\wV k3.net/\(∀g,Up (Up (Up D s w2) w2 w3) w3 w4 g->g≠w.heap.size+1/\g≠w.heap.size+2/\w.heap.size≤g/\g<w4.heap.size)):=⟨X,hF.nt,fun g hg=>by
    have s4:=bc g hg
    have s5:=an.size
    have s6:=af.out.1.size
    have s1:=j.out.2.1;have s2:=aa.out.2.1.size;have s3:=af.out.2.2.1.size
    rcases hg with ((h|h)|h)|h
    ·exact ⟨fun e=>j.out.2.2.2.2.2.2.1 (e▸h),fun e=>j.out.2.2.2.2.2.2.2 (e▸h),by have:=I.out.2.2.2.2.1 g h;omega,s4⟩
    all_goals exact ⟨by omega,by omega,by omega,s4⟩⟩
   have g0:=X.cell 0 (u:=.int .i64 k3.net.places) rfl
   have g1:=X.cell 1 (u:=O.v 1) rfl
   have g2:=X.cell 2 (u:=O.v 2) rfl
   have g3:=X.cell 3 (u:=O.v 3) rfl
   have g4:=X.cell 4 (u:=O.v 4) rfl
   have g5:=X.cell 5 (u:=O.v 5) rfl
   have g6:=X.cell 6 (u:=O.v 6) rfl
   obtain ⟨p3,ai⟩:=gQx k3.net.places
   rw[<-ai] at g0
   obtain ⟨r0,r1,r2,r3,r4,r5,r6⟩:=gJ u1
   have rf:∀o,w4.frozen? ⟨w.heap.size+1,o,none⟩=false:=fun o=>aG u1 o
   have re:=aF u2 0 (u:=.nilIface) rfl
   have bw:=aG u2 0
   have HU:Hid (w4.heap[w.heap.size+1]?=some (.cells ZN 26 (0,0))/\w4.heap[w.heap.size+2]?=some (.cells #[.nilIface] 33 (0,0))/\Below w.heap.size w w4/\p3=k3.net.places):=⟨u1,u2,an,ai⟩
   obtain ⟨e1,l1,o1,al⟩:∃e l o,O.v 1=.slice e l o:=by obtain ⟨e,o,h⟩:=aP (X.row 1 (by omega) (by omega));exact ⟨e,_,o,h⟩
   obtain ⟨e2,l2,o2,au⟩:∃e l o,O.v 2=.slice e l o:=by obtain ⟨e,o,h⟩:=aP (X.row 2 (by omega) (by omega));exact ⟨e,_,o,h⟩
   obtain ⟨e3,l3,o3,av⟩:∃e l o,O.v 3=.slice e l o:=by obtain ⟨e,o,h⟩:=aP (X.row 3 (by omega) (by omega));exact ⟨e,_,o,h⟩
   obtain ⟨e4,l4,o4,am⟩:∃e l o,O.v 4=.slice e l o:=by obtain ⟨e,o,h⟩:=aP (X.row 4 (by omega) (by omega));exact ⟨e,_,o,h⟩
   obtain ⟨e5,l5,o5,ar⟩:∃e l o,O.v 5=.slice e l o:=by obtain ⟨e,o,h⟩:=aP (X.row 5 (by omega) (by omega));exact ⟨e,_,o,h⟩
   obtain ⟨e6,l6,o6,aj⟩:∃e l o,O.v 6=.slice e l o:=by obtain ⟨e,o,h⟩:=aP (X.row 6 (by omega) (by omega));exact ⟨e,_,o,h⟩
   have bp:Hid (O.v 1=.slice e1 l1 o1/\O.v 2=.slice e2 l2 o2/\O.v 3=.slice e3 l3 o3/\O.v 4=.slice e4 l4 o4/\O.v 5=.slice e5 l5 o5/\O.v 6=.slice e6 l6 o6):=⟨al,au,av,am,ar,aj⟩
   rw[al] at g1
   rw[au] at g2
   rw[av] at g3
   rw[am] at g4
   rw[ar] at g5
   rw[aj] at g6
   clear ht h4 f4 u1 u2 an X hF bc ai al au av am ar aj d3
   go_wp2_with fail
   obtain ⟨W5,ae⟩:=gQx ((((((((w4.setCell ⟨w.heap.size+1,0,none⟩ (.int .i64 p3)).setCell ⟨w.heap.size+1,1,none⟩ (.slice e1 l1 o1)).setCell ⟨w.heap.size+1,2,none⟩ (.slice e2 l2 o2)).setCell ⟨w.heap.size+1,3,none⟩ (.slice e3 l3 o3)).setCell ⟨w.heap.size+1,4,none⟩ (.slice e4 l4 o4)).setCell ⟨w.heap.size+1,5,none⟩ (.slice e5 l5 o5)).setCell ⟨w.heap.size+1,6,none⟩ (.slice e6 l6 o6)).setCell ⟨w.heap.size+2,0,none⟩ .nilIface)
   rw[<-ae]
   obtain ⟨z0,z1,z2,z3⟩:=aA9 (v:=.nilIface) HU.out.1 HU.out.2.1 (by omega) ae
   have zS:W5.heap.size=w4.heap.size:=by rw[ae];simp only[World.setCell,Array.size_modify]
   clear ae
   have hN:=(HV.out.1.carry (Q:=fun b=>w.heap.size≤b/\b<W5.heap.size) (w':=W5) fun b hb hl=>⟨⟨(HV.out.2.2 b hb).2.2.1,by have:=(HV.out.2.2 b hb).2.2.2;rw[zS];exact this⟩,z2 b (HV.out.2.2 b hb).1 (HV.out.2.2 b hb).2.1⟩).netA
   obtain ⟨q1,q2,q3,q4,q5,q6⟩:=bp.out
   rw[q1,q2,q3,q4,q5,q6] at hN
   refine leaves_cons (f:=69) (args:=#[.pointer (some ⟨w.heap.size+1,0,none⟩),.pointer (some ⟨w.heap.size+2,0,none⟩)]) (by simp) (by simp[go_sem]) ?_
   refine (Y7 ⟨w.heap.size+1,0,none⟩ ⟨w.heap.size+2,0,none⟩ _).mono ?_
   rintro e u' bk ⟨rfl,rfl,rfl⟩
   exact ⟨_,yI _ _ _ _ _ _ rfl rfl rfl z0 z1,z3 _ _ HU.out.2.2.1 (by omega) (by omega),.inr ⟨k3.net,_,_,_,_,_,_,by rw[uD H1.out,bind_some H2.out,H3.out];rfl,by rw[<-HU.out.2.2.2],hN,HV.out.2.1⟩⟩
end
end Ew
end
end Go.Proofs.YthieaobjdpfcoaaGreatDoor
