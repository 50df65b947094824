import Derived.Test.YtcdbhoknhnimcaaGreatDoorSEze0
import Derived.Test.YtcdbhoknhnimcaaGreatDoorSEzb
import Derived.Test.YtcdbhoknhnimcaaGreatDoorSEz1
import Derived.Test.YtcdbhoknhnimcaaGreatDoorSPcatch
import Derived.Test.YtcdbhoknhnimcaaGreatDoorSLaidU
import Derived.Test.YtcdbhoknhnimcaaGreatDoorSEy1
import Derived.Test.YtcdbhoknhnimcaaGreatDoorSNo
set_option maxRecDepth 100000
set_option maxHeartbeats 16000000
namespace Go.Proofs.YtcdbhoknhnimcaaGreatDoor
section
open Go.RowKit Px
namespace Ew
open Px.Em (Kd Vr eH eI iN Rg bY)
open Nx (Nt Sp)
section
variable {A P:Nat->Prop}{w:World}{ns:List bA}{kb E:Nat}{k:Kd}
theorem bQ1 {ls:List (List (St 6))}:Em.tick ls k=Em.pO k.net.places ls (aQ k 1):=rfl
theorem bB3 {ls:List (List (St 6))}{v:Value}(hV:fX A w (aJ A w 6) ls v) (hlay:∀l∈ls,tK 6 l/\pU ns 6 l/\pT 6 l) (hE:E+1+(ls.map (gI 6)).sum<1000000) (hll:ls.length≤100000) (h:dZ E ns P w kb k) (hR:Ro A P w) :
    Calls Tryz.prog 96 #[.pointer (some ⟨kb,0,none⟩),v] w (eV (E+1+(ls.map (gI 6)).sum) ns P kb w k (Em.tick ls k) (fun _=>.tuple #[])):=by
 obtain ⟨ad,gd,cap,rfl,hmx,hg,hat⟩:=hV.len
 have hAg:0<ls.length->A gd:=fun hp=>by
  obtain ⟨xs,hr,_⟩:=hV
  exact hr.2 gd (by rw[(hg hp).1];rfl)
 obtain ⟨n,hn⟩:∃n,n=ls.length:=⟨_,rfl⟩
 rw[<-hn] at hg hAg hll ⊢
 obtain ⟨p,hp⟩:∃p,p=k.net.places:=⟨_,rfl⟩
 obtain ⟨Z,hZ⟩:∃Z,Z=Em.tick ls k:=⟨_,rfl⟩
 have HZ:Hid (Z=Em.pO p ls (aQ k 1)):=by rw[Hid,hZ,hp,bQ1]
 rw[<-hZ]
 obtain ⟨EE,hEE⟩:∃EE,EE=E+1+(ls.map (gI 6)).sum:=⟨_,rfl⟩
 rw[<-hEE] at hE ⊢
 have HE:Hid (EE=E+1+(ls.map (gI 6)).sum/\EE<1000000):=⟨hEE,hE⟩
 have HP:Hid (∀b,P b->b<w.heap.size):=h.2.2
 have HH:Hid (Ro A P w/\n=ls.length/\∀l∈ls,tK 6 l/\pU ns 6 l/\pT 6 l):=⟨hR,hn,hlay⟩
 have HG:Hid (0<n->ad=some ⟨gd,0,none⟩/\A gd):=fun hp=>⟨(hg hp).1,hAg hp⟩
 have HAT:Hid (∀(i:Nat) (r:List (St 6)),ls[i]?=some r->∃u,w.cell? ⟨gd,i,none⟩=some u/\aJ A w 6 r u):=hat
 have hpl:=sQ (x:=1) h (by omega) ⟨by omega,by omega⟩
 rw[<-hp] at hpl
 have HKP:Hid (k.net.places≤(aQ k 1).net.places):=by show k.net.places≤k.net.places+1;omega
 clear hV h hR hn hZ hp hg hAg hat hmx hlay hEE hE
 go_enter Tryz.func96,Tryz.ntmps96
 go_upto_region 2 with (go_at_call 145;refine hpl.mono ?_;rintro e w1 ⟨rfl,h1⟩)
 have A1:Hid (At (E+1) ns P kb w k w1 (aQ k 1)):=⟨h1.out.1,h1.out.2,HKP.out⟩
 clear hpl h1
 go_loopg [13] n (fun f i wr=>∃(j:Nat) (kj:Kd),f=n-j/\j≤n/\i=.int .i64 (j:Int)/\Hid (Z=Em.pO p (ls.drop j) kj/\At (E+1+((ls.take j).map (gI 6)).sum) ns P kb w k wr kj))
 case atStart=>exact ⟨0,aQ k 1,by omega,by omega,rfl,HZ.out,by simpa using A1.out⟩
 case round=>
  obtain ⟨j,kj,rfl,hj,rfl,hr⟩:=hrel
  obtain ⟨hr1,hA⟩:=hr.out
  by_cases hlt:j<n
  ·obtain ⟨l,hl⟩:∃l:List (St 6),ls[j]?=some l:=⟨_,List.getElem?_eq_getElem (by rw[<-HH.out.2.1];exact hlt)⟩
   obtain ⟨u,c0,hu⟩:=HAT.out j l hl
   have kp:bD A A w wr:=hA.keep HH.out.1
   have c0:=bQ kp (HG.out (by omega)).2 c0
   have hu:=hu.carry kp
   have hix:=De ad gd n cap j hlt (fun hp=>(HG.out hp).1)
   have hlm:=HH.out.2.2 l (List.mem_of_getElem? hl)
   obtain ⟨E1,hE1⟩:∃E1,E1=E+1+((ls.take (j+1)).map (gI 6)).sum:=⟨_,rfl⟩
   have hEs:E+1+((ls.take j).map (gI 6)).sum+gI 6 l=E1:=by rw[hE1,lH (gI 6) hl];omega
   have hEl:E1<1000000:=by have:=lC (gI 6) hl;have:=HE.out;omega
   have hlay:=aM2 (A:=A) (kb:=kb) (ns:=ns) 6 hu hlm.1 hlm.2.1 hlm.2.2 hA.1 (hA.ro HH.out.1) (by rw[hEs];exact hEl)
   rw[hEs] at hlay
   have HJ:Hid (At (E+1+((ls.take j).map (gI 6)).sum) ns P kb w k wr kj/\Z=Em.pO p (l::ls.drop (j+1)) kj/\E1<1000000/\E1=E+1+((ls.take (j+1)).map (gI 6)).sum):=⟨hA,by rw[hr1,dK hl],hEl,hE1⟩
   clear hr hr1 hA hl hu kp hlm hE1 hEs hEl
   go_upto_region 5 with (go_at_call 147;refine hlay.mono ?_;rintro e w2 ⟨g,rfl,h2⟩)
   obtain ⟨r,k2,P2,R2,hz,L2⟩:=h2.out
   obtain ⟨r,rfl⟩:∃r':iN (St 5) (Rg 5),r=r':=⟨r,rfl⟩
   obtain ⟨gS,aS,cS,vo,hgk,hAg,hS,hord,hst⟩:Ba (fun x=>A x\/R2 x) w2 (eT (fun x=>A x\/R2 x) 5 w2) r g:=L2.rg
   have hok:Be ns (eJ ns 5) r:=L2.ok
   have hth:0≤r.there/\r.there<k2.net.places:=L2.th
   obtain ⟨t,ht⟩:∃t:Nat,r.there=(t:Int):=⟨r.there.toNat,by omega⟩
   obtain ⟨f0,hf0⟩:∃f0:Nat,r.first=(f0:Int):=⟨r.first.toNat,by have:=hok.f.1;omega⟩
   obtain ⟨m,hm⟩:∃m,m=r.states.length:=⟨_,rfl⟩
   obtain ⟨fl,hfl⟩:∃fl,fl=k2.net.first.length:=⟨_,rfl⟩
   have htl:t<k2.net.first.length:=by have:=L2.cm.2.1.len;omega
   obtain ⟨b,capb,b1,hPb,⟨bu,b2⟩,b3,hC3,hF3⟩:=L2.cm.zeroed htl
   rw[<-hfl] at b1 htl
   have hixt:=cL2 b fl capb t htl
   rw[<-hm,ht,hf0] at hgk
   have g3:=aA hgk 3 (u:=.int .i64 (t:Int)) rfl
   obtain ⟨W3,hW3⟩:∃W3,W3=(w2.setCell ⟨b,t,none⟩ (.int .i64 0)).drew:=⟨_,rfl⟩
   have hC3':dZ E1 ns P2 W3 kb (zeroed k2 t):=by rw[hW3];exact hC3.drew
   have hF3':bV P2 w2 W3:=by rw[hW3];exact hF3.drew
   have nA:∀x,A x\/R2 x->x<w2.heap.size/\¬P2 x:=fun x hx=>by
    have h0:=HJ.out.1.ro HH.out.1
    rcases hx with hx|hx
    ·exact ⟨Nat.lt_of_lt_of_le (h0 x hx).1 L2.fr.size,fun hp=>(L2.up x hp).elim (h0 x hx).2 fun h=>absurd h.1 (by have:=(h0 x hx).1;omega)⟩
    ·exact ⟨(L2.rn x hx).2,fun hp=>L2.dr x hp hx⟩
   have k3:bD (fun x=>A x\/R2 x) (fun x=>A x\/R2 x) w2 W3:=fun x hx hl=>⟨hx,hF3'.block x hl (nA x hx).2⟩
   have hg3:=jL k3 hAg hgk
   have HL:Hid (Laid A ns (Up P w wr) kb wr kj 6 E1 r g P2 R2 w2 k2/\bV P2 w2 W3/\dZ E1 ns P2 W3 kb (zeroed k2 t)/\eT (fun x=>A x\/R2 x) 6 W3 r g/\eJ ns 6 r/\r.there=(t:Int)/\r.first=(f0:Int)/\m=r.states.length/\(∀x,A x\/R2 x->x<w2.heap.size/\¬P2 x)/\f0<m/\k2.net.places≤(zeroed k2 t).net.places):=⟨L2,hF3',hC3',eT.carry 6 k3 r g L2.rg,L2.ok,ht,hf0,hm,nA,by have:=hok.f.2;omega,Int.le_refl _⟩
   have HZ2:Hid (Z=((Em.aG 6).goOn r (t:Int) (Em.dT (List.replicate m []) (f0:Int) p false) >>= fun _=>Em.pO p (ls.drop (j+1))) (zeroed k2 t)):=by
    rw[Hid,HJ.out.2.1,aC8 hz ht,ht,hf0,<-hm]
   have hm6:m≤1000000:=by rw[hm];exact hok.n
   have s0:=aA hg3 0 (u:=.slice aS m cS) rfl
   have s2:=aA hg3 2 (u:=.int .i64 (f0:Int)) rfl
   have s3:=aA hg3 3 (u:=.int .i64 (t:Int)) rfl
   have HGK:Hid (W3.heap[g]?=some (.cells #[.slice aS m cS,vo,.int .i64 (f0:Int),.int .i64 (t:Int),.bool r.idle,.bool r.leaves] 223 (0,0))/\(A g\/R2 g)):=⟨hg3,hAg⟩
   clear h2 hz L2 hgk hAg hS hord hst hok hth ht hf0 hm hfl htl hPb hC3 hF3 hC3' hF3' nA k3 hg3 hlay hix c0
   go_region
   all_goals
    rw[<-hW3]
    clear hW3 b1 b2 b3 g3 hixt
    obtain ⟨W4,hW4⟩:∃W4,W4=W3.alloc (.cells (Array.replicate m (Value.slice none 0 0)) 271):=⟨_,rfl⟩
    obtain ⟨b0,hb0⟩:∃b0,b0=W3.heap.size:=⟨_,rfl⟩
    have hb4:Below W3.heap.size W3 W4:=by rw[hW4];exact aD _ _
    have hI4:uJ (fun x=>x=b0) W4 b0 (List.replicate m []) 0:=E6 (by rw[hW4,hb0,List.toArray_replicate];exact bF W3 _)
    have hmk:∀W,(Instr.makeSlice 225 (.int .i64 (m:Int)) (.int .i64 (m:Int))).run Tryz.prog W=.ok (.slice (some ⟨W.heap.size,0,none⟩) m m) (W.alloc (.cells (List.replicate m (Value.slice none 0 0)).toArray 271)):=fun W=>bG4 W m hm6
    have hadd:=rN (i:=f0) p false hI4 (by rw[List.length_replicate];exact HL.out.2.2.2.2.2.2.2.2.2.1) (by omega)
    rw[List.length_replicate] at hadd
    have q2:=aV hb4 s2
    have HB4:Hid (Below W3.heap.size W3 W4/\b0=W3.heap.size/\uJ (fun x=>x=b0) W4 b0 (List.replicate m []) 0/\W4.heap.size=W3.heap.size+1):=⟨hb4,hb0,hI4,by rw[hW4];simp⟩
    clear hb4 hI4 s2 s3
    go_upto_region 7 with fail
    rw[<-hW4,<-hb0]
    clear hW4 hb0 hmk s0
    go_upto_region 8 with (go_at_call 148;refine hadd.mono ?_;rintro e w5 ⟨rfl,h5⟩)
    have hb5:Below W3.heap.size W3 w5:=HB4.out.1.trans (h5.out.2.below (B:=W3.heap.size) (by have:=HB4.out.2.2.2;omega) fun x hx=>by rw[hx,HB4.out.2.1];exact Nat.le_refl _)
    have hsz:w2.heap.size≤W3.heap.size:=HL.out.2.1.size
    have hgo:=bJ7 HJ.out.2.2.1 6 (A:=fun x=>A x\/R2 x) (kb:=kb) (ns:=ns) (P:=P2) (T:=Up (fun x=>x=b0) W4 w5) (w:=w5) (k:=zeroed k2 t) (r:=r) (g:=g) (b:=b0) (here:=(t:Int)) (t:=Em.dT (List.replicate m []) (f0:Int) p false) (c:=0+1) (eT.carry 6 (fun x hx hl=>⟨hx,hb5.block x hl⟩) r g HL.out.2.2.2.1) HL.out.2.2.2.2.1 (HL.out.2.2.1.below hb5) h5.out.1 (fun x hx hu=>by
     have h1:=HL.out.2.2.1.2.2 x hx
     rcases hu with hu|hu
     ·rw[hu,HB4.out.2.1] at h1;omega
     ·have:=HB4.out.2.2.2;omega) (fun x hx=>⟨by have:=(HL.out.2.2.2.2.2.2.2.2.1 x hx).1;have:=hb5.size;omega,fun hu=>by
     have h1:=HL.out.2.2.2.2.2.2.2.2.1 x hx
     rcases hu with hu|hu|hu
     ·exact h1.2 hu
     ·rw[hu,HB4.out.2.1] at h1;omega
     ·have:=HB4.out.2.2.2;omega⟩) (by rw[lX,List.length_replicate];exact HL.out.2.2.2.2.2.2.2.1) (by omega)
    have HT:Hid (∀e w6,lY E1 ns P2 (Up (fun x=>x=b0) W4 w5) kb w5 (zeroed k2 t) ((Em.aG 6).goOn r (t:Int) (Em.dT (List.replicate m []) (f0:Int) p false) (zeroed k2 t)) e w6->(e=Bj/\Hid ((Em.aG 6).goOn r (t:Int) (Em.dT (List.replicate m []) (f0:Int) p false) (zeroed k2 t)=none)/\Hid (bV P w w6))\/∃k5,e=.returned (.tuple #[])/\Hid ((Em.aG 6).goOn r (t:Int) (Em.dT (List.replicate m []) (f0:Int) p false) (zeroed k2 t)=some ((),k5))/\Hid (At E1 ns P kb w k w6 k5)):=fun e w6 hG=>
     bB2 HP.out HJ.out.1.2.1 HJ.out.1.2.2 HL.out.1 HL.out.2.1 HL.out.2.2.2.2.2.2.2.2.2.2 (lY.ran hb5 HL.out.2.2.1.2.2 (fun x hx=>by
      rcases hx with hx|hx
      ·rw[hx,HB4.out.2.1];exact Nat.le_refl _
      ·have:=HB4.out.2.2.2;omega) hG)
    have hs:(Em.aG 6).size r=m:=HL.out.2.2.2.2.2.2.2.1.symm
    rw[hs] at hgo
    have q3:=aA (aR hb5 HGK.out.1) 3 (u:=.int .i64 (t:Int)) rfl
    clear hb5 hsz h5 hadd q2 hs
    go_wp2_with (go_at_call 149;refine hgo.mono ?_;intro e w6 h6;rcases HT.out _ _ h6 with ⟨rfl,h0,h1⟩|⟨k6,rfl,h0,h1⟩;(· exact ⟨rfl,.inl ⟨rfl,HZ2.out.trans (aE h0.out),h1⟩⟩);have HN:Hid (Z=Em.pO p (ls.drop (j+1)) k6/\At E1 ns P kb w k w6 k6):=⟨HZ2.out.trans (bind_some h0.out),h1.out⟩;clear h0 h1 h6 hgo)
    go_roundg (n-(j+1))
    case measure=>omega
    case rel=>exact ⟨j+1,k6,rfl,by omega,by go_num,HN.out.1,by rw[<-HJ.out.2.2.2];exact HN.out.2⟩
  ·have HF:Hid (eV EE ns P kb w k Z (fun _=>.tuple #[]) (.returned (.tuple #[])) wr):=by
    have hjn:j=n:=by omega
    have he:ls.take j=ls:=List.take_of_length_le (by rw[hjn,HH.out.2.1];exact Nat.le_refl _)
    rw[he,<-HE.out.1] at hA
    refine At.ends (a:=()) hA ?_
    rw[hr1,List.drop_eq_nil_of_le (by rw[<-HH.out.2.1];omega)]
    rfl
   clear hr hr1 hA
   go_wp2_with fail
   go_end0
   exact HF.out
end
end Ew
end
section
open Go.RowKit Px
theorem vX {ρ:Type}{vs:List bH}{R:List ρ->Nat->zM}{l:List (bM ρ)}{n m:Nat}(h:nG vs R l n=.ok m):gY l=1:=by
 unfold nG at h
 split at h
 ·exact absurd h (by simp)
 ·split at h
  ·exact absurd h (by simp)
  ·rename_i hw
   have hw:cZ l=0:=by omega
   unfold cZ at hw
   split at hw
   ·simp at hw
   ·split at hw
    ·simp at hw
    ·omega
theorem sK {α:Type}{f:α->Nat}:∀{l:List α},(∀a∈l,1≤f a)->l.length≤gC f l
 | [],_=>Nat.le_refl _
 | a::r,h=>by
  have h1:=h a (List.mem_cons_self ..)
  have h2:=sK (l:=r) fun b hb=>h b (List.mem_cons_of_mem _ hb)
  rw[gC,List.length_cons];omega
theorem yQ {vs:List bH}:∀{k:Nat}{l:List (St k)}{n m:Nat},lS vs k l n=.ok m->1≤I8 k l
 | 0,l,n,m,h=>by simp[lS] at h
 | k+1,l,n,m,h=>by
  have h1:=vX (show nG vs (lS vs k) l n=.ok m from h)
  have h2:(List.filter (fun s:bM (St k)=>s.first) l).length≤l.length:=List.length_filter_le _ _
  have h3:l.length≤I8 (k+1) l:=vL (Am (k+1)) l
  unfold gY at h1
  omega
theorem bH1 {vs:List bH}:∀{k:Nat}{l:List (St k)}{n m:Nat},lS vs k l n=.ok m->(∀x∈l,aK1 k x)->I8 k l≤1000000->tK k l
 | 0,l,n,m,h,_,_=>by simp[lS] at h
 | k+1,l,n,m,h,hN,hc=>by
  have hr:=show nG vs (lS vs k) l n=.ok m from h
  obtain ⟨⟨o,_,hd,ht⟩,hs⟩:=bR3 hr
  have h3:l.length≤I8 (k+1) l:=vL (Am (k+1)) l
  refine ⟨vX hr,hd,ht,by omega,fun s hs'=>?_⟩
  obtain ⟨hn,hi⟩:=hN s hs'
  obtain ⟨n1,_,_,_,_,n2,n3⟩:=hn
  have h4:1+Am (k+1) s≤I8 (k+1) l:=vJ (fun x:St (k+1)=>1+Am (k+1) x) hs'
  have h5:Am (k+1) s=gC (I8 k) (bM.regions s):=rfl
  obtain ⟨n',m',hq⟩:=hs s hs'
  have h6:(bM.regions s).length≤gC (I8 k) (bM.regions s):=sK fun r hr=>by
   obtain ⟨n',m',hq'⟩:=lR hq r hr
   exact yQ hq'
  refine ⟨n1,n3,by omega,fun y hy=>(n2 y hy).1,fun r hr=>?_⟩
  obtain ⟨n',m',hq'⟩:=lR hq r hr
  have h7:=vJ (I8 k) hr
  exact bH1 hq' (hi r hr) (by omega)
theorem zF {c:fQ}(h:fV c=none) (hN:pF c):(∀r∈c.regions,tK 6 r)/\c.regions.length≤1000000:=by
 unfold fV at h
 split at h
 ·exact absurd h (by simp)
 ·split at h
  ·exact absurd h (by simp)
  ·split at h
   ·exact absurd h (by simp)
   ·rename_i m hm
    refine ⟨fun r hr=>?_,?_⟩
    ·obtain ⟨n,m,hq⟩:=lR hm r hr
     have:=vJ (I8 6) hr
     have:=hN.many
     exact bH1 hq (hN.sts r hr) (by omega)
    ·have:=sK (f:=I8 6) (l:=c.regions) fun r hr=>by
      obtain ⟨n,m,hq⟩:=lR hm r hr
      exact yQ hq
     have:=hN.many
     omega
def aK2:E->Prop
 | .nil=>True
 | .node _ _ a l r=>gQ a.num/\aK2 l/\aK2 r
def tJ (l:List gX):Prop:=∀a∈l,aK2 a.e
def bZ7 {ρ:Type}(s:bM ρ):Prop:=tJ s.enter/\tJ s.during/\tJ s.leave/\aK2 s.rests/\∀y∈s.ways,aK2 y.cond/\tJ y.sets
def bN8:(k:Nat)->St k->Prop
 | 0=>fun _=>True
 | k+1=>fun s=>bZ7 s/\∀r∈bM.regions s,∀x∈r,bN8 k x
theorem qK.of:∀{e:E},yD e->aK2 e->qK e
 | .nil,_,_=>trivial
 | .node _ _ _ _ _,h,k=>⟨h.1,k.1,qK.of h.2.1 k.2.1,qK.of h.2.2 k.2.2⟩
theorem bV5 {ns:List bA}{s:bA}(h:(iT ns s).isNone=false):s∈ns:=by
 cases hf:iT ns s with
 | none=>rw[hf] at h;simp at h
 | some i=>
  obtain ⟨h1,h2,_⟩:=rQ hf
  rw[<-h2,List.getD_eq_getElem?_getD,List.getElem?_eq_getElem h1]
  exact List.getElem_mem h1
theorem yO {vs:List bH}:∀{l:List gX},bZ vs l=0->∀a∈l,mJ vs a=0
 | [],_,a,h=>by simp at h
 | b::r,h,a,ha=>by
  rw[bZ] at h
  split at h
  ·rename_i hb;exact absurd h hb
  ·rename_i hb
   rcases List.mem_cons.1 ha with rfl|ha
   ·omega
   ·exact yO h a ha
theorem rA {vs:List bH}{l:List gX}(h:bZ vs l=0) (hn:kC l) (hb:tJ l):oH (bO vs) l:=fun a ha=>by
 have h1:=yO h a ha
 unfold mJ at h1
 split at h1
 ·simp at h1
 ·rename_i h2
  simp only[Bool.or_eq_true,not_or,Bool.not_eq_true] at h2
  exact ⟨bV5 h2.1,(hn a ha).1,qK.of (hn a ha).2 (hb a ha)⟩
theorem yE {vs:List bH}{ns:List bA}{b:Bool}:∀{l:List Wy},jR vs ns b l=0->∀y∈l,mE vs ns b y=0
 | [],_,y,h=>by simp at h
 | z::r,h,y,hy=>by
  rw[jR] at h
  split at h
  ·rename_i hb;exact absurd h hb
  ·rename_i hb
   rcases List.mem_cons.1 hy with rfl|hy
   ·omega
   ·exact yE h y hy
theorem aO9 {vs:List bH}{ns:List bA}{b:Bool}{y:Wy}(h:mE vs ns b y=0):bZ vs y.sets=0:=by
 unfold mE at h
 split at h
 ·simp at h
 ·split at h
  ·simp at h
  ·split at h
   ·simp at h
   ·exact h
theorem G9 {ρ:Type}{vs:List bH}{ns:List bA}{s:bM ρ}(h:xI vs ns s=0):bZ vs s.enter=0/\bZ vs s.during=0/\bZ vs s.leave=0/\∃b,jR vs ns b s.ways=0:=by
 unfold xI at h
 split at h
 ·simp at h
 ·split at h
  ·rename_i hb;exact absurd h hb
  ·split at h
   ·rename_i hb;exact absurd h hb
   ·split at h
    ·rename_i hb;exact absurd h hb
    ·split at h
     ·simp at h
     ·exact ⟨by omega,by omega,by omega,_,h⟩
theorem cA9 {ρ:Type}{vs:List bH}{ns:List bA}{i:Nat}{s:bM ρ}(h:iD vs ns i s=0) (hn:zN s) (hb:bZ7 s) (hr:s.regions.length≤maxLen):Cx (bO vs) s:=by
 unfold iD at h
 split at h
 ·simp at h
 ·obtain ⟨a1,a2,a3,b,a4⟩:=G9 h
  obtain ⟨_,n1,n2,n3,n4,n5,n6⟩:=hn
  obtain ⟨b1,b2,b3,b4,b5⟩:=hb
  exact ⟨rA a1 n1 b1,rA a2 n2 b2,rA a3 n3 b3,qK.of n4 b4,fun y hy=>⟨qK.of (n5 y hy).2.1 (b5 y hy).1,rA (aO9 (yE a4 y hy)) (n5 y hy).2.2 (b5 y hy).2⟩,by unfold maxLen;omega,hr⟩
theorem Q0 {vs:List bH}:∀{k:Nat}{l:List (St k)}{n m:Nat},lS vs k l n=.ok m->(∀x∈l,aK1 k x)->(∀x∈l,bN8 k x)->tK k l->pU (bO vs) k l
 | 0,_,_,_,_,_,_,_=>trivial
 | k+1,l,n,m,h,hN,hB,hL=>by
  have hr:=show nG vs (lS vs k) l n=.ok m from h
  obtain ⟨_,_,_,_,hl⟩:=hL
  intro s hs
  have hst:∃m',fR vs (lS vs k) (aZ (ρ:=St k) l) l 0 n=.ok m':=by
   unfold nG at hr
   split at hr
   ·exact absurd hr (by simp)
   ·rename_i m' hm';exact ⟨m',hm'⟩
  obtain ⟨m',hm'⟩:=hst
  obtain ⟨⟨i,hi⟩,n',m'',hq⟩:=pX hm' s hs
  obtain ⟨_,_,l3,_,l5⟩:=hl s hs
  refine ⟨cA9 hi (hN s hs).1 (hB s hs).1 (by unfold maxLen;omega),fun r hr'=>?_⟩
  obtain ⟨n1,m1,hq'⟩:=lR hq r hr'
  exact Q0 hq' ((hN s hs).2 r hr') ((hB s hs).2 r hr') (l5 r hr')
theorem aI6 {c:fQ}(h:fV c=none) (hN:pF c) (hB:∀r∈c.regions,∀x∈r,bN8 6 x):bO2 c:=by
 obtain ⟨h1,h2⟩:=zF h hN
 refine ⟨hN.vars,hN.names,by unfold maxLen;omega,?_⟩
 unfold fV at h
 split at h
 ·exact absurd h (by simp)
 ·split at h
  ·exact absurd h (by simp)
  ·split at h
   ·exact absurd h (by simp)
   ·rename_i m hm
    intro r hr
    obtain ⟨n,m,hq⟩:=lR hm r hr
    exact Q0 hq (hN.sts r hr) (hB r hr) (h1 r hr)
end
section
open Go.RowKit Px
namespace Kx
theorem Dc {e:E}(h:Sh.TE e):aK2 e:=by
 induction e with
 | nil=>trivial
 | node b o a l r ihl ihr=>
  obtain ⟨h1,h2,h3,h4,_,h5,h6⟩:=h
  exact ⟨h3,ihl h5,ihr h6⟩
theorem Ct {l:List gX}(h:Sh.TS l):tJ l:=fun a ha=>Dc (h a ha).1
theorem cQ9:∀(k:Nat) (x:St k),Sh.Bt k x->bN8 k x:=by
 intro k
 induction k with
 | zero=>intro x _;trivial
 | succ k ih=>
  intro x h
  obtain ⟨h0,h1,h2,h3,h4,h5,h6⟩:=h
  exact ⟨⟨Ct h1,Ct h2,Ct h3,Dc h4,fun y hy=>⟨Dc (h5 y hy).2.2.1,Ct (h5 y hy).2.2.2.1⟩⟩,fun r hr y hy=>ih y (h6 r hr y hy)⟩
theorem aM0 {L:List Lx.fJ}(hL:Wf L) {c:fQ}(h:cX L=.ok c):(∀r∈c.regions,∀x∈r,bN8 6 x)/\∀v∈c.vars,gQ v.first:=by
 obtain ⟨h1,h2,h3⟩:=Sh.F7 hL h
 exact ⟨fun r hr x hx=>cQ9 6 x (h2 r hr x hx),fun v hv=>⟨(h1 v hv).1.2.2.1,(h1 v hv).1.2.2.2⟩⟩
structure cM9 (c:fQ):Prop where
 ok:fV c=none
 nm:pF c
 run:bO2 c
 n64:∀v∈c.vars,gQ v.first
theorem cQ4 {s:ByteArray}{l:List Lx.fJ}{c:fQ}(hok:Lx.Ok (bs s) l) (hch:cX (sZ s l)=.ok c) (h:fV c=none):cM9 c:=
 ⟨h,B8 (uV hok) hch,aI6 h (B8 (uV hok) hch) (aM0 (uV hok) hch).1,(aM0 (uV hok) hch).2⟩
end Kx
end
section
open Go.RowKit Px
namespace Ew
theorem kS {α:Type}(f:α->Nat):∀l:List α,Sh.fL f l=(l.map f).sum
 | []=>rfl
 | a::r=>by rw[Sh.fL,kS f r];rfl
theorem zY {α:Type}{f g:α->Nat}:∀{l:List α},(∀a∈l,f a≤g a)->(l.map f).sum≤(l.map g).sum
 | [],_=>Nat.le_refl _
 | a::r,h=>by
  have h1:=h a (by simp)
  have h2:=zY (l:=r) fun x hx=>h x (by simp[hx])
  simp only[List.map_cons,List.sum_cons]
  omega
theorem vH {α:Type}{f:α->Nat}:∀{l:List α},(∀a∈l,1≤f a)->l.length≤(l.map f).sum
 | [],_=>Nat.le_refl _
 | a::r,h=>by
  have h1:=h a (by simp)
  have h2:=vH (l:=r) fun x hx=>h x (by simp[hx])
  simp only[List.map_cons,List.sum_cons,List.length_cons]
  omega
theorem bA4:∀(d:Nat) (l:List (St d)),gI d l≤Sh.wR (Sh.iC d) l
 | 0,l=>by show 1≤1+Sh.fL (Sh.iC 0) l;omega
 | d+1,l=>by
  show 1+(List.map (iC (gI d)) (show List (bM (St d)) from l)).sum≤1+Sh.fL (Sh.jS (Sh.iC d)) (show List (bM (St d)) from l)
  rw[kS]
  refine Nat.add_le_add_left (zY fun s _=>?_) 1
  have h1:s.ways.length≤Sh.fL Sh.wW s.ways:=by rw[kS];exact vH fun y _=>by unfold Sh.wW;omega
  have h2:(s.regions.map (gI d)).sum≤Sh.fL (Sh.wR (Sh.iC d)) s.regions:=by rw[kS];exact zY fun r _=>bA4 d r
  unfold iC Sh.jS
  omega
theorem B9 {α:Type}(f:α->Nat) {l:List α}{a:α}(h:a∈l):f a≤(l.map f).sum:=by
 induction l with
 | nil=>simp at h
 | cons b r ih=>
  simp only[List.map_cons,List.sum_cons]
  rcases List.mem_cons.1 h with rfl|h
  ·omega
  ·have:=ih h;omega
theorem bZ1:∀(d:Nat) (l:List (St d)),(∀x∈l,Sh.Bt d x)->Sh.wR (Sh.iC d) l≤1000000->pT d l
 | 0,_,_,_=>trivial
 | d+1,l,h,hw=>by
  intro s hs
  obtain ⟨h0,h1,h2,h3,h4,h5,h6⟩:Sh.yB (Sh.Bt d) s:=h s hs
  have hw':1+Sh.fL (Sh.jS (Sh.iC d)) (show List (bM (St d)) from l)≤1000000:=hw
  rw[kS] at hw'
  have hm:=B9 (Sh.jS (Sh.iC d)) (l:=(show List (bM (St d)) from l)) hs
  have e:Sh.jS (Sh.iC d) s=1+Sh.wS s.enter+Sh.wS s.during+Sh.wS s.leave+Sh.wE s.rests+Sh.fL Sh.wW s.ways+Sh.fL (Sh.wR (Sh.iC d)) s.regions:=rfl
  have a1:=Sh.bA3 s.during
  have a2:=Sh.bA3 s.leave
  refine ⟨by omega,by omega,fun y hy=>by have:=(h5 y hy).2.1;omega,fun r hr=>bZ1 d r (fun x hx=>h6 r hr x hx) ?_⟩
  have:=B9 (Sh.wR (Sh.iC d)) hr
  rw[<-kS] at this
  omega
structure Cf (c:fQ):Prop where
 run:Kx.cM9 c
 tm:∀r∈c.regions,pT 6 r
 lay:∀r∈c.regions,tK 6 r
 few:c.vars.length+(c.regions.map (gI 6)).sum≤1000
theorem Eu {s:ByteArray}{l:List Lx.fJ}{c:fQ}(hok:Lx.Ok (bs s) l) (hch:cX (sZ s l)=.ok c) (h:fV c=none):Cf c:=by
 obtain ⟨h1,h2,h3⟩:=Sh.F7 (uV hok) hch
 have hr:=Kx.cQ4 hok hch h
 rw[kS] at h3
 refine ⟨hr,fun r hr=>bZ1 6 r (h2 r hr) ?_,(zF h hr.nm).1,?_⟩
 ·have:=B9 (Sh.wR (Sh.iC 6)) hr;omega
 ·have:=zY (f:=gI 6) (g:=Sh.wR (Sh.iC 6)) (l:=c.regions) fun r _=>bA4 6 r;omega
end Ew
end
section
open Go.RowKit
namespace Nx
def aN7 (B:Nat) (w:World) (v:Value) (f:Nat×Int):Prop:=
 (f.1=0/\f.2=-1/\v=.nilIface)\/(f.1≠0/\f.2=-1/\v=.iface 94 (.int .i64 f.1)) \/
  (f.1≠0/\∃g q:Nat,f.2=q/\B≤g/\v=.iface 115 (.pointer (some ⟨g,0,none⟩))/\w.heap[g]?=some (.cells #[.int .i64 f.1,.int .i64 q] 117 (0,0)))
theorem r7 (B:Nat) (n:Nt) (w:World) (vF vI vO vK vN vC:Value) (h:gJ B w n vF vI vO vK vN vC) (hB:B≤w.heap.size) (hs:eU n) (hw:cZ n≠0) :
    Calls Tryz.prog 29 #[.agg #[.int .i64 n.places,vF,vI,vO,vK,vN,vC]] w fun e w'=>e=.returned (.iface 94 (.int .i64 (cZ n:Nat)))/\Below w.heap.size w w':=by
 have hwh:=oM B n w.heap.size (w.alloc (.cells #[.int .i64 n.places,vF,vI,vO,vK,vN,vC] 26)) vF vI vO vK vN vC (h.below ((aM w _).mono hB) (Nat.le_refl _)) hs (by simp)
 obtain ⟨e,he⟩:∃e,e=cZ n:=⟨_,rfl⟩
 rw[<-he] at hwh hw ⊢
 have t0:((e:Int) != 0)=true:=by simp;omega
 clear he hw h hB hs
 go_enter Tryz.func29,Tryz.ntmps29
 go_wp2_with (go_at_call 56;refine hwh.mono ?_;rintro e w1 ⟨rfl,hb1⟩)
 go_ret
 exact ⟨rfl,iQ (aM w _) hb1⟩
theorem cJ5 (B:Nat) (n:Nt) (w:World) (vF vI vO vK vN vC:Value) (h:gJ B w n vF vI vO vK vN vC) (hB:B≤w.heap.size) (hs:eU n) (hw:cZ n=0) :
    Calls Tryz.prog 29 #[.agg #[.int .i64 n.places,vF,vI,vO,vK,vN,vC]] w fun e w'=>∃v,e=.returned v/\aN7 w.heap.size w' v (lI n.places n.nums.length n.code 0)/\Below w.heap.size w w':=by
 have hwh:=oM B n w.heap.size (w.alloc (.cells #[.int .i64 n.places,vF,vI,vO,vK,vN,vC] 26)) vF vI vO vK vN vC (h.below ((aM w _).mono hB) (Nat.le_refl _)) hs (by simp)
 rw[hw] at hwh
 have hcl:=hs.c;have hml:=hs.m
 obtain ⟨adC,bC,offC,capC,rfl,hC1,hC2⟩:=h.c
 obtain ⟨adN,bN,offN,capN,rfl,-,-⟩:=h.m
 have HC1:Hid (_/\_):=⟨hC1,hC2⟩
 have HX:Hid (∀w1,Below (w.alloc (.cells #[.int .i64 n.places,vF,vI,vO,vK,.slice adN n.nums.length capN,.slice adC n.code.length capC] 26)).heap.size (w.alloc (.cells #[.int .i64 n.places,vF,vI,vO,vK,.slice adN n.nums.length capN,.slice adC n.code.length capC] 26)) w1->w1.cell? ⟨w.heap.size,0,none⟩=some (.int .i64 n.places)/\w1.cell? ⟨w.heap.size,5,none⟩=some (.slice adN n.nums.length capN)/\w1.cell? ⟨w.heap.size,6,none⟩=some (.slice adC n.code.length capC)/\Below w.heap.size w w1/\w.heap.size<w1.heap.size):=
  fun w1 hb=>⟨cH hb (by simp),cH hb (by simp),cH hb (by simp),iQ (aM w _) hb,by have:=hb.size;simp at this;omega⟩
 clear h hs hw hC1 hC2
 go_enter Tryz.func29,Tryz.ntmps29
 go_wp2_with (go_at_call 56;refine hwh.mono ?_;rintro e w1 ⟨rfl,hb1⟩;obtain ⟨d0,d5,d6,hbw,hlw⟩:=HX.out w1 hb1;have HB1:Hid _:=hbw;clear hwh hb1 hbw)
 go_loopw [19] (fun i wr=>∃k:Nat,k≤n.code.length/\i=.int .i64 k/\(∀j,j<k->eA n.places n.nums.length (n.code.getD j mH)=0)/\Below w1.heap.size w1 wr) (fun i _=>n.code.length-(intOf i).toNat)
 case atStart=>exact ⟨0,Nat.zero_le _,rfl,fun j hj=>by omega,Below.refl _ _⟩
 case round=>
  obtain ⟨k,hk,rfl,hall,hbr⟩:=hrel
  have HA:Hid _:=hall
  have HBR:Hid _:=hbr
  have f0:=cH hbr d0
  have f5:=cH hbr d5
  have hbw:Hid _:=iQ HB1.out hbr
  clear hall hbr
  by_cases hlt:k<n.code.length
  ·have hix:=cL4 adC bC offC n.code.length capC k hlt (fun h=>(HC1.out.1 h).1)
   obtain ⟨s,hs⟩:∃s,s=n.code.getD k mH:=⟨_,rfl⟩
   have hb':wr.heap[bC]?=w.heap[bC]?:=hbw.out.block bC (by have:=(HC1.out.1 (by omega)).2;omega)
   obtain ⟨x0,x1,x2,x3,x4⟩:=HC1.out.2 k hlt
   rw[<-cA hb',<-hs] at x0 x1 x2 x3 x4
   have HS:Hid _:=hs
   have hst:=bB7 s n.places n.nums.length w.heap.size (wr.alloc (.cells #[.int .i64 s.code,.int .i64 s.dst,.int .i64 s.a,.int .i64 s.b,.int .i64 s.c] 39)) (cH (aM wr _) f0)
   have g5:=cH (aM wr (.cells #[.int .i64 s.code,.int .i64 s.dst,.int .i64 s.a,.int .i64 s.b,.int .i64 s.c] 39)) f5
   obtain ⟨e,he⟩:∃e,e=eA n.places n.nums.length s:=⟨_,rfl⟩
   rw[<-he] at hst
   have HE:Hid _:=he
   clear hs hb' he d0 d5 d6
   by_cases e0:e=0
   ·subst e0
    go_wp2_with (go_at_call 57;refine hst.mono ?_;rintro e w2 ⟨rfl,hb2⟩)
    go_roundw
    case rel=>exact ⟨k+1,by omega,by go_num,fun j hj=>by
     by_cases ej:j=k
     ·rw[ej,<-HS.out];exact HE.out.symm
     ·exact HA.out j (by omega),iQ HBR.out (iQ (aM wr _) hb2)⟩
    case measure=>simp[intOf];omega
   ·have t0:((e:Int) != 0)=true:=by simp;omega
    have E0:Hid _:=e0
    clear e0
    go_wp2_with (go_at_call 57;refine hst.mono ?_;rintro e w2 ⟨rfl,hb2⟩)
    go_ret
    have hb3:Below w.heap.size w w2:=iQ hbw.out (iQ (aM wr _) hb2)
    refine ⟨_,rfl,.inr (.inr ⟨?_,w2.heap.size,k,?_,hb3.size,rfl,?_⟩),hb3.alloc hb3.size _⟩
    ·rw[lN _ _ _ k HA.out hlt (by rw[<-HS.out,<-HE.out];exact E0.out)]
     rw[<-HS.out,<-HE.out];exact E0.out
    ·rw[lN _ _ _ k HA.out hlt (by rw[<-HS.out,<-HE.out];exact E0.out)]
    ·rw[lN _ _ _ k HA.out hlt (by rw[<-HS.out,<-HE.out];exact E0.out),<-HS.out,<-HE.out]
     exact heap_alloc_new _ _
  ·go_wp2
   go_ret
   refine ⟨_,rfl,.inl ?_,hbw.out⟩
   rw[O5 _ _ _ (fun j hj=>HA.out j (by omega))]
   exact ⟨rfl,rfl,rfl⟩
theorem iM (B:Nat) (n:Nt) (w:World) (vF vI vO vK vN vC:Value) (h:gJ B w n vF vI vO vK vN vC) (hB:B≤w.heap.size) (hs:eU n) :
    Calls Tryz.prog 29 #[.agg #[.int .i64 n.places,vF,vI,vO,vK,vN,vC]] w fun e w'=>∃v,e=.returned v/\aN7 w.heap.size w' v (dY n)/\Below w.heap.size w w':=by
 unfold dY
 by_cases hw:cZ n=0
 ·rw[if_pos hw];exact cJ5 B n w vF vI vO vK vN vC h hB hs hw
 ·rw[if_neg hw]
  exact (r7 B n w vF vI vO vK vN vC h hB hs hw).mono fun e w' ⟨he,hb⟩=>⟨_,he,.inr (.inl ⟨hw,rfl,rfl⟩),hb⟩
end Nx
end
end Go.Proofs.YtcdbhoknhnimcaaGreatDoor
