import Derived.Test.YtcdbhoknhnimcaaGreatDoorTEze0
import Derived.Test.YtcdbhoknhnimcaaGreatDoorTEf
import Derived.Test.YtcdbhoknhnimcaaGreatDoorTEz1
import Derived.Test.YtcdbhoknhnimcaaGreatDoorTPcatch
import Derived.Test.YtcdbhoknhnimcaaGreatDoorTLaidU
import Derived.Test.YtcdbhoknhnimcaaGreatDoorTEy1
import Derived.Test.YtcdbhoknhnimcaaGreatDoorTEi
import Derived.Test.YtcdbhoknhnimcaaGreatDoorTEk0
import Derived.Test.YtcdbhoknhnimcaaGreatDoorTNf
import Derived.Defers
import Derived.Recover
set_option maxRecDepth 100000
set_option maxHeartbeats 16000000
namespace Go.Proofs.YtcdbhoknhnimcaaGreatDoor
section
open Go.RowKit Px
namespace Ew
open Px.Em (Kd Vr eL eM jG Rg cR)
open Nx (Nt Sp)
section
variable {A P:Nat->Prop}{w:World}{ns:List bB}{kb E:Nat}{k:Kd}
theorem Tq {ls:List (List (St 6))}:Em.tick ls k=Em.qO k.net.places ls (aQ k 1):=rfl
theorem wF {ls:List (List (St 6))}{v:Value}(hV:gI A w (aL A w 6) ls v) (hlay:∀l∈ls,uM 6 l/\qW ns 6 l/\qV 6 l) (hE:E+1+(ls.map (hJ 6)).sum<1000000) (hll:ls.length≤100000) (h:eG E ns P w kb k) (hR:Ro A P w) :
    Calls Tryz.prog 96 #[.pointer (some ⟨kb,0,none⟩),v] w (eY (E+1+(ls.map (hJ 6)).sum) ns P kb w k (Em.tick ls k) (fun _=>.tuple #[])):=by
 obtain ⟨ad,gd,cap,rfl,hmx,hg,hat⟩:=hV.len
 have hAg:0<ls.length->A gd:=fun hp=>by
  obtain ⟨xs,hr,_⟩:=hV
  exact hr.2 gd (by rw[(hg hp).1];rfl)
 obtain ⟨n,hn⟩:∃n,n=ls.length:=⟨_,rfl⟩
 rw[<-hn] at hg hAg hll ⊢
 obtain ⟨p,hp⟩:∃p,p=k.net.places:=⟨_,rfl⟩
 obtain ⟨Z,hZ⟩:∃Z,Z=Em.tick ls k:=⟨_,rfl⟩
 have HZ:Hid (Z=Em.qO p ls (aQ k 1)):=by rw[Hid,hZ,hp,Tq]
 rw[<-hZ]
 obtain ⟨EE,hEE⟩:∃EE,EE=E+1+(ls.map (hJ 6)).sum:=⟨_,rfl⟩
 rw[<-hEE] at hE ⊢
 have HE:Hid (EE=E+1+(ls.map (hJ 6)).sum/\EE<1000000):=⟨hEE,hE⟩
 have HP:Hid (∀b,P b->b<w.heap.size):=h.2.2
 have HH:Hid (Ro A P w/\n=ls.length/\∀l∈ls,uM 6 l/\qW ns 6 l/\qV 6 l):=⟨hR,hn,hlay⟩
 have HG:Hid (0<n->ad=some ⟨gd,0,none⟩/\A gd):=fun hp=>⟨(hg hp).1,hAg hp⟩
 have HAT:Hid (∀(i:Nat) (r:List (St 6)),ls[i]?=some r->∃u,w.cell? ⟨gd,i,none⟩=some u/\aL A w 6 r u):=hat
 have hpl:=mO (x:=1) h (by omega) ⟨by omega,by omega⟩
 rw[<-hp] at hpl
 have HKP:Hid (k.net.places≤(aQ k 1).net.places):=by show k.net.places≤k.net.places+1;omega
 clear hV h hR hn hZ hp hg hAg hat hmx hlay hEE hE
 go_enter Tryz.func96,Tryz.ntmps96
 go_upto_region 2 with (go_at_call 145;refine hpl.mono ?_;rintro e w1 ⟨rfl,h1⟩)
 have A1:Hid (At (E+1) ns P kb w k w1 (aQ k 1)):=⟨h1.out.1,h1.out.2,HKP.out⟩
 clear hpl h1
 go_loopg [13] n (fun f i wr=>∃(j:Nat) (kj:Kd),f=n-j/\j≤n/\i=.int .i64 (j:Int)/\Hid (Z=Em.qO p (ls.drop j) kj/\At (E+1+((ls.take j).map (hJ 6)).sum) ns P kb w k wr kj))
 case atStart=>exact ⟨0,aQ k 1,by omega,by omega,rfl,HZ.out,by simpa using A1.out⟩
 case round=>
  obtain ⟨j,kj,rfl,hj,rfl,hr⟩:=hrel
  obtain ⟨hr1,hA⟩:=hr.out
  by_cases hlt:j<n
  ·obtain ⟨l,hl⟩:∃l:List (St 6),ls[j]?=some l:=⟨_,List.getElem?_eq_getElem (by rw[<-HH.out.2.1];exact hlt)⟩
   obtain ⟨u,c0,hu⟩:=HAT.out j l hl
   have kp:aX A A w wr:=hA.keep HH.out.1
   have c0:=cF kp (HG.out (by omega)).2 c0
   have hu:=hu.carry kp
   have hix:=ixR ad gd n cap j hlt (fun hp=>(HG.out hp).1)
   have hlm:=HH.out.2.2 l (List.mem_of_getElem? hl)
   obtain ⟨E1,hE1⟩:∃E1,E1=E+1+((ls.take (j+1)).map (hJ 6)).sum:=⟨_,rfl⟩
   have hEs:E+1+((ls.take j).map (hJ 6)).sum+hJ 6 l=E1:=by rw[hE1,mE (hJ 6) hl];omega
   have hEl:E1<1000000:=by have:=lZ (hJ 6) hl;have:=HE.out;omega
   have hlay:=Fo (A:=A) (kb:=kb) (ns:=ns) 6 hu hlm.1 hlm.2.1 hlm.2.2 hA.1 (hA.ro HH.out.1) (by rw[hEs];exact hEl)
   rw[hEs] at hlay
   have HJ:Hid (At (E+1+((ls.take j).map (hJ 6)).sum) ns P kb w k wr kj/\Z=Em.qO p (l::ls.drop (j+1)) kj/\E1<1000000/\E1=E+1+((ls.take (j+1)).map (hJ 6)).sum):=⟨hA,by rw[hr1,dR hl],hEl,hE1⟩
   clear hr hr1 hA hl hu kp hlm hE1 hEs hEl
   go_upto_region 5 with (go_at_call 147;refine hlay.mono ?_;rintro e w2 ⟨g,rfl,h2⟩)
   obtain ⟨r,k2,P2,R2,hz,L2⟩:=h2.out
   obtain ⟨r,rfl⟩:∃r':jG (St 5) (Rg 5),r=r':=⟨r,rfl⟩
   obtain ⟨gS,aS,cS,vo,hgk,hAg,hS,hord,hst⟩:Lh (fun x=>A x\/R2 x) w2 (eV (fun x=>A x\/R2 x) 5 w2) r g:=L2.rg
   have hok:Lp ns (eN ns 5) r:=L2.ok
   have hth:0≤r.there/\r.there<k2.net.places:=L2.th
   obtain ⟨t,ht⟩:∃t:Nat,r.there=(t:Int):=⟨r.there.toNat,by omega⟩
   obtain ⟨f0,hf0⟩:∃f0:Nat,r.first=(f0:Int):=⟨r.first.toNat,by have:=hok.f.1;omega⟩
   obtain ⟨m,hm⟩:∃m,m=r.states.length:=⟨_,rfl⟩
   obtain ⟨fl,hfl⟩:∃fl,fl=k2.net.first.length:=⟨_,rfl⟩
   have htl:t<k2.net.first.length:=by have:=L2.cm.2.1.len;omega
   obtain ⟨b,capb,b1,hPb,⟨bu,b2⟩,b3,hC3,hF3⟩:=L2.cm.zeroed htl
   rw[<-hfl] at b1 htl
   have hixt:=aE7 b fl capb t htl
   rw[<-hm,ht,hf0] at hgk
   have g3:=aA hgk 3 (u:=.int .i64 (t:Int)) rfl
   obtain ⟨W3,hW3⟩:∃W3,W3=(w2.setCell ⟨b,t,none⟩ (.int .i64 0)).drew:=⟨_,rfl⟩
   have hC3':eG E1 ns P2 W3 kb (zeroed k2 t):=by rw[hW3];exact hC3.drew
   have hF3':bH P2 w2 W3:=by rw[hW3];exact hF3.drew
   have nA:∀x,A x\/R2 x->x<w2.heap.size/\¬P2 x:=fun x hx=>by
    have h0:=HJ.out.1.ro HH.out.1
    rcases hx with hx|hx
    ·exact ⟨Nat.lt_of_lt_of_le (h0 x hx).1 L2.fr.size,fun hp=>(L2.up x hp).elim (h0 x hx).2 fun h=>absurd h.1 (by have:=(h0 x hx).1;omega)⟩
    ·exact ⟨(L2.rn x hx).2,fun hp=>L2.dr x hp hx⟩
   have k3:aX (fun x=>A x\/R2 x) (fun x=>A x\/R2 x) w2 W3:=fun x hx hl=>⟨hx,hF3'.block x hl (nA x hx).2⟩
   have hg3:=kC k3 hAg hgk
   have HL:Hid (Laid A ns (Up P w wr) kb wr kj 6 E1 r g P2 R2 w2 k2/\bH P2 w2 W3/\eG E1 ns P2 W3 kb (zeroed k2 t)/\eV (fun x=>A x\/R2 x) 6 W3 r g/\eN ns 6 r/\r.there=(t:Int)/\r.first=(f0:Int)/\m=r.states.length/\(∀x,A x\/R2 x->x<w2.heap.size/\¬P2 x)/\f0<m/\k2.net.places≤(zeroed k2 t).net.places):=⟨L2,hF3',hC3',eV.carry 6 k3 r g L2.rg,L2.ok,ht,hf0,hm,nA,by have:=hok.f.2;omega,Int.le_refl _⟩
   have HZ2:Hid (Z=((Em.aG 6).goOn r (t:Int) (Em.dZ (List.replicate m []) (f0:Int) p false) >>= fun _=>Em.qO p (ls.drop (j+1))) (zeroed k2 t)):=by
    rw[Hid,HJ.out.2.1,Bj hz ht,ht,hf0,<-hm]
   have hm6:m≤1000000:=by rw[hm];exact hok.n
   have s0:=aA hg3 0 (u:=.slice aS m cS) rfl
   have s2:=aA hg3 2 (u:=.int .i64 (f0:Int)) rfl
   have s3:=aA hg3 3 (u:=.int .i64 (t:Int)) rfl
   have HGK:Hid (W3.heap[g]?=some (.cells #[.slice aS m cS,vo,.int .i64 (f0:Int),.int .i64 (t:Int),.bool r.idle,.bool r.leaves] 223 (0,0))/\(A g\/R2 g)):=⟨hg3,hAg⟩
   clear h2 hz L2 hgk hAg hS hord hst hok hth ht hf0 hm hfl htl hPb hC3 hF3 hC3' hF3' nA k3 hg3 hlay hix c0
   go_region
   all_goals
    rw[<-hW3]
    clear hW3 b1 b2 b3 g3 hixt
    obtain ⟨W4,hW4⟩:∃W4,W4=W3.alloc (.cells (Array.replicate m (Value.slice none 0 0)) 271):=⟨_,rfl⟩
    obtain ⟨b0,hb0⟩:∃b0,b0=W3.heap.size:=⟨_,rfl⟩
    have hb4:Below W3.heap.size W3 W4:=by rw[hW4];exact aC _ _
    have hI4:vJ (fun x=>x=b0) W4 b0 (List.replicate m []) 0:=G2 (by rw[hW4,hb0,List.toArray_replicate];exact bE W3 _)
    have hmk:∀W,(Instr.makeSlice 225 (.int .i64 (m:Int)) (.int .i64 (m:Int))).run Tryz.prog W=.ok (.slice (some ⟨W.heap.size,0,none⟩) m m) (W.alloc (.cells (List.replicate m (Value.slice none 0 0)).toArray 271)):=fun W=>Ol W m hm6
    have hadd:=sF (i:=f0) p false hI4 (by rw[List.length_replicate];exact HL.out.2.2.2.2.2.2.2.2.2.1) (by omega)
    rw[List.length_replicate] at hadd
    have q2:=aM hb4 s2
    have HB4:Hid (Below W3.heap.size W3 W4/\b0=W3.heap.size/\vJ (fun x=>x=b0) W4 b0 (List.replicate m []) 0/\W4.heap.size=W3.heap.size+1):=⟨hb4,hb0,hI4,by rw[hW4];simp⟩
    clear hb4 hI4 s2 s3
    go_upto_region 7 with fail
    rw[<-hW4,<-hb0]
    clear hW4 hb0 hmk s0
    go_upto_region 8 with (go_at_call 148;refine hadd.mono ?_;rintro e w5 ⟨rfl,h5⟩)
    have hb5:Below W3.heap.size W3 w5:=HB4.out.1.trans (h5.out.2.below (B:=W3.heap.size) (by have:=HB4.out.2.2.2;omega) fun x hx=>by rw[hx,HB4.out.2.1];exact Nat.le_refl _)
    have hsz:w2.heap.size≤W3.heap.size:=HL.out.2.1.size
    have hgo:=Qc HJ.out.2.2.1 6 (A:=fun x=>A x\/R2 x) (kb:=kb) (ns:=ns) (P:=P2) (T:=Up (fun x=>x=b0) W4 w5) (w:=w5) (k:=zeroed k2 t) (r:=r) (g:=g) (b:=b0) (here:=(t:Int)) (t:=Em.dZ (List.replicate m []) (f0:Int) p false) (c:=0+1) (eV.carry 6 (fun x hx hl=>⟨hx,hb5.block x hl⟩) r g HL.out.2.2.2.1) HL.out.2.2.2.2.1 (HL.out.2.2.1.below hb5) h5.out.1 (fun x hx hu=>by
     have h1:=HL.out.2.2.1.2.2 x hx
     rcases hu with hu|hu
     ·rw[hu,HB4.out.2.1] at h1;omega
     ·have:=HB4.out.2.2.2;omega) (fun x hx=>⟨by have:=(HL.out.2.2.2.2.2.2.2.2.1 x hx).1;have:=hb5.size;omega,fun hu=>by
     have h1:=HL.out.2.2.2.2.2.2.2.2.1 x hx
     rcases hu with hu|hu|hu
     ·exact h1.2 hu
     ·rw[hu,HB4.out.2.1] at h1;omega
     ·have:=HB4.out.2.2.2;omega⟩) (by rw[mT,List.length_replicate];exact HL.out.2.2.2.2.2.2.2.1) (by omega)
    have HT:Hid (∀e w6,mU E1 ns P2 (Up (fun x=>x=b0) W4 w5) kb w5 (zeroed k2 t) ((Em.aG 6).goOn r (t:Int) (Em.dZ (List.replicate m []) (f0:Int) p false) (zeroed k2 t)) e w6->(e=Sv/\Hid ((Em.aG 6).goOn r (t:Int) (Em.dZ (List.replicate m []) (f0:Int) p false) (zeroed k2 t)=none)/\Hid (bH P w w6))\/∃k5,e=.returned (.tuple #[])/\Hid ((Em.aG 6).goOn r (t:Int) (Em.dZ (List.replicate m []) (f0:Int) p false) (zeroed k2 t)=some ((),k5))/\Hid (At E1 ns P kb w k w6 k5)):=fun e w6 hG=>
     Mj HP.out HJ.out.1.2.1 HJ.out.1.2.2 HL.out.1 HL.out.2.1 HL.out.2.2.2.2.2.2.2.2.2.2 (mU.ran hb5 HL.out.2.2.1.2.2 (fun x hx=>by
      rcases hx with hx|hx
      ·rw[hx,HB4.out.2.1];exact Nat.le_refl _
      ·have:=HB4.out.2.2.2;omega) hG)
    have hs:(Em.aG 6).size r=m:=HL.out.2.2.2.2.2.2.2.1.symm
    rw[hs] at hgo
    have q3:=aA (aH hb5 HGK.out.1) 3 (u:=.int .i64 (t:Int)) rfl
    clear hb5 hsz h5 hadd q2 hs
    go_wp2_with (go_at_call 149;refine hgo.mono ?_;intro e w6 h6;rcases HT.out _ _ h6 with ⟨rfl,h0,h1⟩|⟨k6,rfl,h0,h1⟩;(· exact ⟨rfl,.inl ⟨rfl,HZ2.out.trans (aF h0.out),h1⟩⟩);have HN:Hid (Z=Em.qO p (ls.drop (j+1)) k6/\At E1 ns P kb w k w6 k6):=⟨HZ2.out.trans (bind_some h0.out),h1.out⟩;clear h0 h1 h6 hgo)
    go_roundg (n-(j+1))
    case measure=>omega
    case rel=>exact ⟨j+1,k6,rfl,by omega,by go_num,HN.out.1,by rw[<-HJ.out.2.2.2];exact HN.out.2⟩
  ·have HF:Hid (eY EE ns P kb w k Z (fun _=>.tuple #[]) (.returned (.tuple #[])) wr):=by
    have hjn:j=n:=by omega
    have he:ls.take j=ls:=List.take_of_length_le (by rw[hjn,HH.out.2.1];exact Nat.le_refl _)
    rw[he,<-HE.out.1] at hA
    refine At.ends (a:=()) hA ?_
    rw[hr1,List.drop_eq_nil_of_le (by rw[<-HH.out.2.1];omega)]
    rfl
   clear hr hr1 hA
   go_wp2_with fail
   go_end0
   exact HF.out
end
end Ew
end
section
open Go.RowKit Px
theorem wZ {ρ:Type}{vs:List bJ}{R:List ρ->Nat->B6}{l:List (cC ρ)}{n m:Nat}(h:oI vs R l n=.ok m):iS l=1:=by
 unfold oI at h
 split at h
 ·exact absurd h (by simp)
 ·split at h
  ·exact absurd h (by simp)
  ·rename_i hw
   have hw:cN l=0:=by omega
   unfold cN at hw
   split at hw
   ·simp at hw
   ·split at hw
    ·simp at hw
    ·omega
theorem tD {α:Type}{f:α->Nat}:∀{l:List α},(∀a∈l,1≤f a)->l.length≤gU f l
 | [],_=>Nat.le_refl _
 | a::r,h=>by
  have h1:=h a (List.mem_cons_self ..)
  have h2:=tD (l:=r) fun b hb=>h b (List.mem_cons_of_mem _ hb)
  rw[gU,List.length_cons];omega
theorem zO {vs:List bJ}:∀{k:Nat}{l:List (St k)}{n m:Nat},mN vs k l n=.ok m->1≤K8 k l
 | 0,l,n,m,h=>by simp[mN] at h
 | k+1,l,n,m,h=>by
  have h1:=wZ (show oI vs (mN vs k) l n=.ok m from h)
  have h2:(List.filter (fun s:cC (St k)=>s.first) l).length≤l.length:=List.length_filter_le _ _
  have h3:l.length≤K8 (k+1) l:=wL (Aw (k+1)) l
  unfold iS at h1
  omega
theorem Oy {vs:List bJ}:∀{k:Nat}{l:List (St k)}{n m:Nat},mN vs k l n=.ok m->(∀x∈l,Es k x)->K8 k l≤1000000->uM k l
 | 0,l,n,m,h,_,_=>by simp[mN] at h
 | k+1,l,n,m,h,hN,hc=>by
  have hr:=show oI vs (mN vs k) l n=.ok m from h
  obtain ⟨⟨o,_,hd,ht⟩,hs⟩:=Ua hr
  have h3:l.length≤K8 (k+1) l:=wL (Aw (k+1)) l
  refine ⟨wZ hr,hd,ht,by omega,fun s hs'=>?_⟩
  obtain ⟨hn,hi⟩:=hN s hs'
  obtain ⟨n1,_,_,_,_,n2,n3⟩:=hn
  have h4:1+Aw (k+1) s≤K8 (k+1) l:=wK (fun x:St (k+1)=>1+Aw (k+1) x) hs'
  have h5:Aw (k+1) s=gU (K8 k) (cC.regions s):=rfl
  obtain ⟨n',m',hq⟩:=hs s hs'
  have h6:(cC.regions s).length≤gU (K8 k) (cC.regions s):=tD fun r hr=>by
   obtain ⟨n',m',hq'⟩:=mM hq r hr
   exact zO hq'
  refine ⟨n1,n3,by omega,fun y hy=>(n2 y hy).1,fun r hr=>?_⟩
  obtain ⟨n',m',hq'⟩:=mM hq r hr
  have h7:=wK (K8 k) hr
  exact Oy hq' (hi r hr) (by omega)
theorem A6 {c:fU}(h:fZ c=none) (hN:qF c):(∀r∈c.regions,uM 6 r)/\c.regions.length≤1000000:=by
 unfold fZ at h
 split at h
 ·exact absurd h (by simp)
 ·split at h
  ·exact absurd h (by simp)
  ·split at h
   ·exact absurd h (by simp)
   ·rename_i m hm
    refine ⟨fun r hr=>?_,?_⟩
    ·obtain ⟨n,m,hq⟩:=mM hm r hr
     have:=wK (K8 6) hr
     have:=hN.many
     exact Oy hq (hN.sts r hr) (by omega)
    ·have:=tD (f:=K8 6) (l:=c.regions) fun r hr=>by
      obtain ⟨n,m,hq⟩:=mM hm r hr
      exact zO hq
     have:=hN.many
     omega
def Et:E->Prop
 | .nil=>True
 | .node _ _ a l r=>eF a.num/\Et l/\Et r
def uL (l:List iQ):Prop:=∀a∈l,Et a.e
def Xr {ρ:Type}(s:cC ρ):Prop:=uL s.enter/\uL s.during/\uL s.leave/\Et s.rests/\∀y∈s.ways,Et y.cond/\uL y.sets
def Sm:(k:Nat)->St k->Prop
 | 0=>fun _=>True
 | k+1=>fun s=>Xr s/\∀r∈cC.regions s,∀x∈r,Sm k x
theorem rL.of:∀{e:E},zB e->Et e->rL e
 | .nil,_,_=>trivial
 | .node _ _ _ _ _,h,k=>⟨h.1,k.1,rL.of h.2.1 k.2.1,rL.of h.2.2 k.2.2⟩
theorem Vw {ns:List bB}{s:bB}(h:(jK ns s).isNone=false):s∈ns:=by
 cases hf:jK ns s with
 | none=>rw[hf] at h;simp at h
 | some i=>
  obtain ⟨h1,h2,_⟩:=sK hf
  rw[<-h2,List.getD_eq_getElem?_getD,List.getElem?_eq_getElem h1]
  exact List.getElem_mem h1
theorem zL {vs:List bJ}:∀{l:List iQ},cU vs l=0->∀a∈l,nD vs a=0
 | [],_,a,h=>by simp at h
 | b::r,h,a,ha=>by
  rw[cU] at h
  split at h
  ·rename_i hb;exact absurd h hb
  ·rename_i hb
   rcases List.mem_cons.1 ha with rfl|ha
   ·omega
   ·exact zL h a ha
theorem rW {vs:List bJ}{l:List iQ}(h:cU vs l=0) (hn:lF l) (hb:uL l):pK (cD vs) l:=fun a ha=>by
 have h1:=zL h a ha
 unfold nD at h1
 split at h1
 ·simp at h1
 ·rename_i h2
  simp only[Bool.or_eq_true,not_or,Bool.not_eq_true] at h2
  exact ⟨Vw h2.1,(hn a ha).1,rL.of (hn a ha).2 (hb a ha)⟩
theorem zC {vs:List bJ}{ns:List bB}{b:Bool}:∀{l:List Wy},kL vs ns b l=0->∀y∈l,mY vs ns b y=0
 | [],_,y,h=>by simp at h
 | z::r,h,y,hy=>by
  rw[kL] at h
  split at h
  ·rename_i hb;exact absurd h hb
  ·rename_i hb
   rcases List.mem_cons.1 hy with rfl|hy
   ·omega
   ·exact zC h y hy
theorem Hb {vs:List bJ}{ns:List bB}{b:Bool}{y:Wy}(h:mY vs ns b y=0):cU vs y.sets=0:=by
 unfold mY at h
 split at h
 ·simp at h
 ·split at h
  ·simp at h
  ·split at h
   ·simp at h
   ·exact h
theorem J5 {ρ:Type}{vs:List bJ}{ns:List bB}{s:cC ρ}(h:yG vs ns s=0):cU vs s.enter=0/\cU vs s.during=0/\cU vs s.leave=0/\∃b,kL vs ns b s.ways=0:=by
 unfold yG at h
 split at h
 ·simp at h
 ·split at h
  ·rename_i hb;exact absurd h hb
  ·split at h
   ·rename_i hb;exact absurd h hb
   ·split at h
    ·rename_i hb;exact absurd h hb
    ·split at h
     ·simp at h
     ·exact ⟨by omega,by omega,by omega,_,h⟩
theorem Xz {ρ:Type}{vs:List bJ}{ns:List bB}{i:Nat}{s:cC ρ}(h:iY vs ns i s=0) (hn:B7 s) (hb:Xr s) (hr:s.regions.length≤maxLen):StR (cD vs) s:=by
 unfold iY at h
 split at h
 ·simp at h
 ·obtain ⟨a1,a2,a3,b,a4⟩:=J5 h
  obtain ⟨_,n1,n2,n3,n4,n5,n6⟩:=hn
  obtain ⟨b1,b2,b3,b4,b5⟩:=hb
  exact ⟨rW a1 n1 b1,rW a2 n2 b2,rW a3 n3 b3,rL.of n4 b4,fun y hy=>⟨rL.of (n5 y hy).2.1 (b5 y hy).1,rW (Hb (zC a4 y hy)) (n5 y hy).2.2 (b5 y hy).2⟩,by unfold maxLen;omega,hr⟩
theorem Q7 {vs:List bJ}:∀{k:Nat}{l:List (St k)}{n m:Nat},mN vs k l n=.ok m->(∀x∈l,Es k x)->(∀x∈l,Sm k x)->uM k l->qW (cD vs) k l
 | 0,_,_,_,_,_,_,_=>trivial
 | k+1,l,n,m,h,hN,hB,hL=>by
  have hr:=show oI vs (mN vs k) l n=.ok m from h
  obtain ⟨_,_,_,_,hl⟩:=hL
  intro s hs
  have hst:∃m',fV vs (mN vs k) (bA (ρ:=St k) l) l 0 n=.ok m':=by
   unfold oI at hr
   split at hr
   ·exact absurd hr (by simp)
   ·rename_i m' hm';exact ⟨m',hm'⟩
  obtain ⟨m',hm'⟩:=hst
  obtain ⟨⟨i,hi⟩,n',m'',hq⟩:=qZ hm' s hs
  obtain ⟨_,_,l3,_,l5⟩:=hl s hs
  refine ⟨Xz hi (hN s hs).1 (hB s hs).1 (by unfold maxLen;omega),fun r hr'=>?_⟩
  obtain ⟨n1,m1,hq'⟩:=mM hq r hr'
  exact Q7 hq' ((hN s hs).2 r hr') ((hB s hs).2 r hr') (l5 r hr')
theorem Ec {c:fU}(h:fZ c=none) (hN:qF c) (hB:∀r∈c.regions,∀x∈r,Sm 6 x):Ss c:=by
 obtain ⟨h1,h2⟩:=A6 h hN
 refine ⟨hN.vars,hN.names,by unfold maxLen;omega,?_⟩
 unfold fZ at h
 split at h
 ·exact absurd h (by simp)
 ·split at h
  ·exact absurd h (by simp)
  ·split at h
   ·exact absurd h (by simp)
   ·rename_i m hm
    intro r hr
    obtain ⟨n,m,hq⟩:=mM hm r hr
    exact Q7 hq (hN.sts r hr) (hB r hr) (h1 r hr)
end
section
open Go.RowKit Px
namespace Kx
theorem nbE {e:E}(h:Sh.TE e):Et e:=by
 induction e with
 | nil=>trivial
 | node b o a l r ihl ihr=>
  obtain ⟨h1,h2,h3,h4,_,h5,h6⟩:=h
  exact ⟨h3,ihl h5,ihr h6⟩
theorem nbS {l:List iQ}(h:Sh.TS l):uL l:=fun a ha=>nbE (h a ha).1
theorem aK6:∀(k:Nat) (x:St k),Sh.Wr k x->Sm k x:=by
 intro k
 induction k with
 | zero=>intro x _;trivial
 | succ k ih=>
  intro x h
  obtain ⟨h0,h1,h2,h3,h4,h5,h6⟩:=h
  exact ⟨⟨nbS h1,nbS h2,nbS h3,nbE h4,fun y hy=>⟨nbE (h5 y hy).2.2.1,nbS (h5 y hy).2.2.2.1⟩⟩,fun r hr y hy=>ih y (h6 r hr y hy)⟩
theorem Fi {L:List Lx.fK}(hL:Wf L) {c:fU}(h:dH L=.ok c):(∀r∈c.regions,∀x∈r,Sm 6 x)/\∀v∈c.vars,eF v.first:=by
 obtain ⟨h1,h2,h3⟩:=Sh.I6 hL h
 exact ⟨fun r hr x hx=>aK6 6 x (h2 r hr x hx),fun v hv=>⟨(h1 v hv).1.2.2.1,(h1 v hv).1.2.2.2⟩⟩
structure aH1 (c:fU):Prop where
 ok:fZ c=none
 nm:qF c
 run:Ss c
 n64:∀v∈c.vars,eF v.first
theorem aK1 {s:ByteArray}{l:List Lx.fK}{c:fU}(hok:Lx.Ok (bs s) l) (hch:dH (fin s l)=.ok c) (h:fZ c=none):aH1 c:=
 ⟨h,F2 (vU hok) hch,Ec h (F2 (vU hok) hch) (Fi (vU hok) hch).1,(Fi (vU hok) hch).2⟩
end Kx
end
section
open Go.RowKit Px
namespace Ew
theorem lP {α:Type}(f:α->Nat):∀l:List α,Sh.fP f l=(l.map f).sum
 | []=>rfl
 | a::r=>by rw[Sh.fP,lP f r];rfl
theorem C7 {α:Type}{f g:α->Nat}:∀{l:List α},(∀a∈l,f a≤g a)->(l.map f).sum≤(l.map g).sum
 | [],_=>Nat.le_refl _
 | a::r,h=>by
  have h1:=h a (by simp)
  have h2:=C7 (l:=r) fun x hx=>h x (by simp[hx])
  simp only[List.map_cons,List.sum_cons]
  omega
theorem wJ {α:Type}{f:α->Nat}:∀{l:List α},(∀a∈l,1≤f a)->l.length≤(l.map f).sum
 | [],_=>Nat.le_refl _
 | a::r,h=>by
  have h1:=h a (by simp)
  have h2:=wJ (l:=r) fun x hx=>h x (by simp[hx])
  simp only[List.map_cons,List.sum_cons,List.length_cons]
  omega
theorem Mc:∀(d:Nat) (l:List (St d)),hJ d l≤Sh.wR (Sh.iW d) l
 | 0,l=>by show 1≤1+Sh.fP (Sh.iW 0) l;omega
 | d+1,l=>by
  show 1+(List.map (iW (hJ d)) (show List (cC (St d)) from l)).sum≤1+Sh.fP (Sh.kM (Sh.iW d)) (show List (cC (St d)) from l)
  rw[lP]
  refine Nat.add_le_add_left (C7 fun s _=>?_) 1
  have h1:s.ways.length≤Sh.fP Sh.wW s.ways:=by rw[lP];exact wJ fun y _=>by unfold Sh.wW;omega
  have h2:(s.regions.map (hJ d)).sum≤Sh.fP (Sh.wR (Sh.iW d)) s.regions:=by rw[lP];exact C7 fun r _=>Mc d r
  unfold iW Sh.kM
  omega
theorem F4 {α:Type}(f:α->Nat) {l:List α}{a:α}(h:a∈l):f a≤(l.map f).sum:=by
 induction l with
 | nil=>simp at h
 | cons b r ih=>
  simp only[List.map_cons,List.sum_cons]
  rcases List.mem_cons.1 h with rfl|h
  ·omega
  ·have:=ih h;omega
theorem Q0:∀(d:Nat) (l:List (St d)),(∀x∈l,Sh.Wr d x)->Sh.wR (Sh.iW d) l≤1000000->qV d l
 | 0,_,_,_=>trivial
 | d+1,l,h,hw=>by
  intro s hs
  obtain ⟨h0,h1,h2,h3,h4,h5,h6⟩:Sh.yZ (Sh.Wr d) s:=h s hs
  have hw':1+Sh.fP (Sh.kM (Sh.iW d)) (show List (cC (St d)) from l)≤1000000:=hw
  rw[lP] at hw'
  have hm:=F4 (Sh.kM (Sh.iW d)) (l:=(show List (cC (St d)) from l)) hs
  have e:Sh.kM (Sh.iW d) s=1+Sh.wS s.enter+Sh.wS s.during+Sh.wS s.leave+Sh.wE s.rests+Sh.fP Sh.wW s.ways+Sh.fP (Sh.wR (Sh.iW d)) s.regions:=rfl
  have a1:=Sh.Mb s.during
  have a2:=Sh.Mb s.leave
  refine ⟨by omega,by omega,fun y hy=>by have:=(h5 y hy).2.1;omega,fun r hr=>Q0 d r (fun x hx=>h6 r hr x hx) ?_⟩
  have:=F4 (Sh.wR (Sh.iW d)) hr
  rw[<-lP] at this
  omega
structure EmC (c:fU):Prop where
 run:Kx.aH1 c
 tm:∀r∈c.regions,qV 6 r
 lay:∀r∈c.regions,uM 6 r
 few:c.vars.length+(c.regions.map (hJ 6)).sum≤1000
theorem emC {s:ByteArray}{l:List Lx.fK}{c:fU}(hok:Lx.Ok (bs s) l) (hch:dH (fin s l)=.ok c) (h:fZ c=none):EmC c:=by
 obtain ⟨h1,h2,h3⟩:=Sh.I6 (vU hok) hch
 have hr:=Kx.aK1 hok hch h
 rw[lP] at h3
 refine ⟨hr,fun r hr=>Q0 6 r (h2 r hr) ?_,(A6 h hr.nm).1,?_⟩
 ·have:=F4 (Sh.wR (Sh.iW 6)) hr;omega
 ·have:=C7 (f:=hJ 6) (g:=Sh.wR (Sh.iW 6)) (l:=c.regions) fun r _=>Mc 6 r;omega
end Ew
end
section
open Go.RowKit Px
namespace Ew
open Px.Em (Kd Vr eL eM jG Rg cR)
open Nx (Nt Sp eQ)
theorem Vj (v:Value) (w:World):(Instr.typeAssert (.iface 94 v) 20 94 true).run Tryz.prog w=.ok (.tuple #[v,.bool true]) w:=by kernel_rfl
def ZN:Array Value:=#[.int .i64 0,.slice none 0 0,.slice none 0 0,.slice none 0 0,.slice none 0 0,.slice none 0 0,.slice none 0 0]
theorem O3 (cb eb:Addr) (w:World) :
    CallsD Tryz.prog 94 #[.pointer (some cb),.pointer (some eb)] .returning w fun e u' w'=>e=.returned (.tuple #[])/\u'=.returning/\w'=w:=by
 refine callsD_of_wpS Tryz.func94 rfl fun c₀ cs hu=>?_
 apply wpS_seq
 apply wpS_region
 simp[wpOpsS,go_sem,recoverD,hu,Tryz.ntmps94,Exit.thenS]
 apply wpS_of_wp
 go_wp2
 cases c₀
 simp_all [bodyPostS,results,Tryz.results94]
theorem qM (cb eb:Nat) (w:World) (older:List PanicEntry) (k0:w.cell? ⟨cb,0,none⟩=some (.int .i64 0)) (kz:∀o,1≤o->o≤6->w.cell? ⟨cb,o,none⟩=some (.slice none 0 0)) (kf:∀o,w.frozen? ⟨cb,o,none⟩=false) (ke:w.cell? ⟨eb,0,none⟩=some .nilIface) (ez:w.frozen? ⟨eb,0,none⟩=false) (hne:cb≠eb) :
    CallsD Tryz.prog 94 #[.pointer (some ⟨cb,0,none⟩),.pointer (some ⟨eb,0,none⟩)] (.panicking ({ v:=.iface 94 (.int .i64 4),recovered:=false }::older)) w fun e u' w'=>e=.returned (.tuple #[])/\u'=.panicking ({ v:=.iface 94 (.int .i64 4),recovered:=true }::older)/\w'=(((((((w.setCell ⟨cb,0,none⟩ (.int .i64 0)).setCell ⟨cb,1,none⟩ (.slice none 0 0)).setCell ⟨cb,2,none⟩ (.slice none 0 0)).setCell ⟨cb,3,none⟩ (.slice none 0 0)).setCell ⟨cb,4,none⟩ (.slice none 0 0)).setCell ⟨cb,5,none⟩ (.slice none 0 0)).setCell ⟨cb,6,none⟩ (.slice none 0 0)).setCell ⟨eb,0,none⟩ (.iface 94 (.int .i64 4)):=by
 have k1:=kz 1 (by omega) (by omega)
 have k2:=kz 2 (by omega) (by omega)
 have k3:=kz 3 (by omega) (by omega)
 have k4:=kz 4 (by omega) (by omega)
 have k5:=kz 5 (by omega) (by omega)
 have k6:=kz 6 (by omega) (by omega)
 clear kz
 refine callsD_of_wpS Tryz.func94 rfl fun c₀ cs hu=>?_
 apply wpS_seq
 apply wpS_region
 simp[wpOpsS,go_sem,recoverD,hu,Tryz.ntmps94,Exit.thenS]
 have harr:∀(V a b:Value),(#[a,b]++((Array.replicate 17 undef).setIfInBounds 3 V).setIfInBounds 0 V:Array Value)=#[a,b,V,undef,undef,V,undef,undef,undef,undef,undef,undef,undef,undef,undef,undef,undef,undef,undef]:=fun _ _ _=>rfl
 rw[harr]
 apply wpS_of_wp
 have hta:=Vj (.int .i64 4)
 go_wp2
 cases c₀
 simp_all [bodyPostS,results,Tryz.results94]
theorem Tu:(Tryz.prog.info? 26).map (·.size)=some 7:=by kernel_rfl
theorem vP {W:World}{g:Nat}{fc:Array Value}(hsz:fc.size=7) (hg:W.heap[g]?=some (.cells fc 26 (0,0))):(loadVar 26 ⟨g,0,none⟩).run Tryz.prog W=.ok (.agg fc) W:=
 run_loadVar_row (P:=Tryz.prog) W g 26 26 fc (0,0) _ hg Tryz.underlying26 rfl (by rw[hsz];exact Tu)
theorem wV (tmps:Array Value) (W:World) (c e:Nat) (fc:Array Value) (v:Value) (hsz:fc.size=7) (hp:tmps[2]?.getD undef=.pointer (some ⟨c,0,none⟩)) (hq:tmps[3]?.getD undef=.pointer (some ⟨e,0,none⟩)) (hc:W.heap[c]?=some (.cells fc 26 (0,0))) (he:W.heap[e]?=some (.cells #[v] 33 (0,0))) :
    (results Tryz.f54 tmps).run Tryz.prog W=.ok (.tuple #[.agg fc,v]) W:=by
 simp[results,Tryz.results54,hp,hq,asAddr,vP hsz hc,Ov he]
theorem gC {W:World}{g:Nat}{T:TypeId}{f:Nat×Nat}{a0 a1 a2 a3 a4 a5 a6:Value}(h:W.heap[g]?=some (.cells #[a0,a1,a2,a3,a4,a5,a6] T f)):W.cell? ⟨g,0,none⟩=some a0/\W.cell? ⟨g,1,none⟩=some a1/\W.cell? ⟨g,2,none⟩=some a2/\W.cell? ⟨g,3,none⟩=some a3/\W.cell? ⟨g,4,none⟩=some a4/\W.cell? ⟨g,5,none⟩=some a5/\W.cell? ⟨g,6,none⟩=some a6:=by
 refine ⟨?_,?_,?_,?_,?_,?_,?_⟩<;>(rw[cell_of_row _ _ _ _ _ _ h];rfl)
theorem Yb {w2:World}{c e:Nat}{a0 a1 a2 a3 a4 a5 a6 v v':Value}(hc:w2.heap[c]?=some (.cells ZN 26 (0,0))) (he:w2.heap[e]?=some (.cells #[v'] 33 (0,0))) (hne:c≠e) {w3:World}(hw:w3=(((((((w2.setCell ⟨c,0,none⟩ a0).setCell ⟨c,1,none⟩ a1).setCell ⟨c,2,none⟩ a2).setCell ⟨c,3,none⟩ a3).setCell ⟨c,4,none⟩ a4).setCell ⟨c,5,none⟩ a5).setCell ⟨c,6,none⟩ a6).setCell ⟨e,0,none⟩ v) :
    w3.heap[c]?=some (.cells #[a0,a1,a2,a3,a4,a5,a6] 26 (0,0))/\w3.heap[e]?=some (.cells #[v] 33 (0,0))/\(∀k,k≠c->k≠e->w3.heap[k]?=w2.heap[k]?)/\(∀B a,Below B a w2->B≤c->B≤e->Below B a w3):=by
 have h0:=bQ (l:=[.int .i64 0,.slice none 0 0,.slice none 0 0,.slice none 0 0,.slice none 0 0,.slice none 0 0,.slice none 0 0]) hc 0 a0
 have h1:=bQ (l:=[a0,.slice none 0 0,.slice none 0 0,.slice none 0 0,.slice none 0 0,.slice none 0 0,.slice none 0 0]) h0 1 a1
 have h2:=bQ (l:=[a0,a1,.slice none 0 0,.slice none 0 0,.slice none 0 0,.slice none 0 0,.slice none 0 0]) h1 2 a2
 have h3:=bQ (l:=[a0,a1,a2,.slice none 0 0,.slice none 0 0,.slice none 0 0,.slice none 0 0]) h2 3 a3
 have h4:=bQ (l:=[a0,a1,a2,a3,.slice none 0 0,.slice none 0 0,.slice none 0 0]) h3 4 a4
 have h5:=bQ (l:=[a0,a1,a2,a3,a4,.slice none 0 0,.slice none 0 0]) h4 5 a5
 have h6:=bQ (l:=[a0,a1,a2,a3,a4,a5,.slice none 0 0]) h5 6 a6
 have ot:∀(W:World) (j:Nat) (u:Value) (k:Nat),k≠c->(W.setCell ⟨c,j,none⟩ u).heap[k]?=W.heap[k]?:=fun W j u k hk=>Below.heap_setCell _ _ _ _ hk
 have ke:(((((((w2.setCell ⟨c,0,none⟩ a0).setCell ⟨c,1,none⟩ a1).setCell ⟨c,2,none⟩ a2).setCell ⟨c,3,none⟩ a3).setCell ⟨c,4,none⟩ a4).setCell ⟨c,5,none⟩ a5).setCell ⟨c,6,none⟩ a6).heap[e]?=some (.cells #[v'] 33 (0,0)):=by
  rw[ot _ _ _ _ (Ne.symm hne),ot _ _ _ _ (Ne.symm hne),ot _ _ _ _ (Ne.symm hne),ot _ _ _ _ (Ne.symm hne),ot _ _ _ _ (Ne.symm hne),ot _ _ _ _ (Ne.symm hne),ot _ _ _ _ (Ne.symm hne)];exact he
 have bl:∀(B:Nat) (a W:World) (j:Nat) (u:Value),Below B a W->B≤c->Below B a (W.setCell ⟨c,j,none⟩ u):=fun B a W j u h hB=>h.setCell (p:=⟨c,j,none⟩) hB u
 rw[hw]
 refine ⟨?_,?_,fun k hkc hke=>?_,fun B a hb hBc hBe=>?_⟩
 ·rw[Below.heap_setCell _ _ _ _ hne];exact h6
 ·exact bQ (l:=[v']) ke 0 v
 ·rw[Below.heap_setCell _ _ _ _ hke,ot _ _ _ _ hkc,ot _ _ _ _ hkc,ot _ _ _ _ hkc,ot _ _ _ _ hkc,ot _ _ _ _ hkc,ot _ _ _ _ hkc,ot _ _ _ _ hkc]
 ·exact (bl _ _ _ _ _ (bl _ _ _ _ _ (bl _ _ _ _ _ (bl _ _ _ _ _ (bl _ _ _ _ _ (bl _ _ _ _ _ (bl _ _ _ _ _ hb hBc) hBc) hBc) hBc) hBc) hBc) hBc).setCell (p:=⟨e,0,none⟩) hBe v
theorem lK:∀(vs:List bJ) (k:Kd),∃k',Em.dP vs k=some ((),k')
 | [],k=>⟨k,rfl⟩
 | v::r,k=>by
  by_cases h1:v.kind=1
  ·rw[Gh h1];exact lK r _
  ·by_cases h2:v.kind=2
   ·rw[s8 h2];exact lK r _
   ·rw[r7 h1 h2];exact lK r _
theorem sT {c:fU}{k1:Kd}(h:Em.dP c.vars Em.kd0=some ((),k1)):Em.sV c=((Em.tick c.regions >>= fun _=>Em.dN c.vars) k1).map (·.2.net):=by
 show ((Em.dP c.vars >>= fun _=>Em.tick c.regions >>= fun _=>Em.dN c.vars) Em.kd0).map (·.2.net)=_
 rw[A9 h]
section
variable {w:World}{ns:List bB}
theorem Zf {mv mn kb n:Nat}(hs:ns.length=n) (hn:n≤100000) (h1:mn=mv+1) (h2:kb=mv+2) (hk:w.heap[kb]?=some (.cells #[.int .i64 0,.slice none 0 0,.slice none 0 0,.slice none 0 0,.slice none 0 0,.slice none 0 0,.slice none 0 0,.map (some mv),.map (some mn)] 168 (0,0))) (hv:Gm.Mp Tryz.prog 9 w mv 0 (fun _=>none)) (hm:Gm.Mp Tryz.prog 2 w mn 0 (fun _=>none)) :
    eG n ns (fun b=>b=mv\/b=mn\/b=kb) w kb Em.kd0:=by
 refine ⟨⟨⟨fun _=>.slice none 0 0,mv,mn,0,0,fun b=>if b=kb then 0 else if b=mv then 7 else 8⟩,hk,fun i i1 i6=>?_,⟨_,hv,fun _=>rfl⟩,⟨_,hm,fun _=>rfl⟩,⟨.inr (.inr rfl),if_pos rfl⟩,fun i g _ _ hg=>by simp[Value.ownBlock] at hg,⟨.inl rfl,?_⟩,⟨.inr (.inl rfl),?_⟩,Nat.le_refl _,Nat.le_refl _,by show mv+2=kb;omega⟩,⟨rfl,?_,Nat.zero_le _,Nat.le_refl _,Nat.le_refl _,Nat.le_refl _,Nat.le_refl _,by omega,fun x hx=>by simp[Em.kd0] at hx,fun x hx=>by simp[Em.kd0] at hx,fun s=>⟨by show -9223372036854775808≤(0:Int);omega,by show (0:Int)≤9223372036854775807;omega⟩,fun s _=>by show (0:Int)≠-1;omega⟩,fun b hb=>?_⟩
 ·have e1:qH Em.kd0.net i=[]:=by unfold qH;split<;>rfl
  have e2:oV Em.kd0.net i=0:=by unfold oV;split<;>rfl
  rw[e1,e2];exact World.ownsRow_nil _ _ _ _
 ·show (if mv=kb then 0 else if mv=mv then 7 else 8)=7
  rw[if_neg (by omega),if_pos rfl]
 ·show (if mn=kb then 0 else if mn=mv then 7 else 8)=8
  rw[if_neg (by omega),if_neg (by omega)]
 ·show 0+xG ns Em.kd0≤0+n
  have:=X1 (ns:=ns) (k:=Em.kd0);omega
 ·have:=aB hk
  rcases hb with rfl|rfl|rfl<;>omega
end
section
variable {P:Nat->Prop}{w:World}{kb E:Nat}{ns:List bB}{k:Kd}{c:Cv}
structure qL (A:Nat->Prop) (w:World) (n:Nt) (vF vI vO vK vN vC:Value):Prop where
 f:Nx.bL A w vF n.first
 i:Nx.bL A w vI n.ins
 o:Nx.bL A w vO n.outs
 k:Nx.bL A w vK n.keeps
 m:Nx.bL A w vN n.nums
 c:Nx.lH A w vC n.code
theorem qL.carry {A A':Nat->Prop}{w w':World}{n:Nt}{vF vI vO vK vN vC:Value}(h:qL A w n vF vI vO vK vN vC) (k:Nx.aX A A' w w'):qL A' w' n vF vI vO vK vN vC:=⟨h.f.carry k,h.i.carry k,h.o.carry k,h.k.carry k,h.m.carry k,h.c.carry k⟩
theorem qL.netV {A:Nat->Prop}{B:Nat}{w:World}{n:Nt}{vF vI vO vK vN vC:Value}(h:qL A w n vF vI vO vK vN vC) (hA:∀b,A b->b<B):eQ B w n vF vI vO vK vN vC:=
 have h':=h.carry (A':=(· < B)) (w':=w) fun b hb _=>⟨hA b hb,rfl⟩
 ⟨h'.f,h'.i,h'.o,h'.k,h'.m,h'.c⟩
theorem pU {A:Nat->Prop}{t:Nat}{v:Value}{zs:List Int}(h:w.ownsRow 0 t 1 v zs.length (zs.map (Value.int .i64))) (hB:∀g,v.ownBlock=some g->A g):Nx.bL A w v zs:=by
 rcases Nat.eq_zero_or_pos zs.length with h0|h0
 ·obtain ⟨ao,cap,e⟩:=aJ h
  exact ⟨ao,0,0,cap,e,fun hp=>absurd hp (by omega),fun k hk=>absurd hk (by omega)⟩
 ·obtain ⟨g,cap,rfl,_,_⟩:=h.form h0
  refine ⟨_,g,0,cap,rfl,fun _=>⟨rfl,hB g rfl⟩,fun j hj=>?_⟩
  rw[Nat.zero_add,h.cellAt j (by omega),List.getElem?_map,List.getD_eq_getElem?_getD,List.getElem?_eq_getElem hj]
  rfl
theorem Ql:∀(l:List Sp) (j i:Nat) (s:Sp),l[j]?=some s->i<5->(l.flatMap rA)[j*5+i]?=(rA s)[i]?
 | [],j,i,s,h,_=>by simp at h
 | a::r,0,i,s,h,hi=>by
  have e:a=s:=by simpa using h
  subst e
  rw[List.flatMap_cons,Nat.zero_mul,Nat.zero_add,List.getElem?_append_left (by simp[rA];omega)]
 | a::r,j+1,i,s,h,hi=>by
  rw[List.flatMap_cons,List.getElem?_append_right (by simp[rA];omega)]
  rw[show (j+1)*5+i-(rA a).length=j*5+i by simp[rA];omega]
  exact Ql r j i s (by simpa using h) hi
theorem T8 {A:Nat->Prop}{t:Nat}{v:Value}{l:List Sp}(h:w.ownsRow 0 t 5 v l.length (l.flatMap rA)) (hB:∀g,v.ownBlock=some g->A g):Nx.lH A w v l:=by
 rcases Nat.eq_zero_or_pos l.length with h0|h0
 ·obtain ⟨ao,cap,e⟩:=aJ h
  exact ⟨ao,0,0,cap,e,fun hp=>absurd hp (by omega),fun k hk=>absurd hk (by omega)⟩
 ·obtain ⟨g,cap,rfl,_,_⟩:=h.form h0
  have at':∀j i,j<l.length->i<5->w.cell? ⟨g,0+j*5+i,none⟩=(rA (l.getD j Nx.iC))[i]?:=fun j i hj hi=>by
   rw[Nat.zero_add,h.cellAt _ (by omega),Ql l j i (l.getD j Nx.iC) (by rw[List.getD_eq_getElem?_getD,List.getElem?_eq_getElem hj];rfl) hi]
  exact ⟨_,g,0,cap,rfl,fun _=>⟨rfl,hB g rfl⟩,fun j hj=>⟨at' j 0 hj (by omega),at' j 1 hj (by omega),at' j 2 hj (by omega),at' j 3 hj (by omega),at' j 4 hj (by omega)⟩⟩
theorem CM.netA (h:CM P w kb k c):qL P w k.net (c.v 1) (c.v 2) (c.v 3) (c.v 4) (c.v 5) (c.v 6):=
 ⟨pU (h.row 1 (by omega) (by omega)) fun g hg=>(h.pr 1 g (by omega) (by omega) hg).1,pU (h.row 2 (by omega) (by omega)) fun g hg=>(h.pr 2 g (by omega) (by omega) hg).1,pU (h.row 3 (by omega) (by omega)) fun g hg=>(h.pr 3 g (by omega) (by omega) hg).1,pU (h.row 4 (by omega) (by omega)) fun g hg=>(h.pr 4 g (by omega) (by omega) hg).1,pU (h.row 5 (by omega) (by omega)) fun g hg=>(h.pr 5 g (by omega) (by omega) hg).1,T8 (h.row 6 (by omega) (by omega)) fun g hg=>(h.pr 6 g (by omega) (by omega) hg).1⟩
end
end Ew
end
end Go.Proofs.YtcdbhoknhnimcaaGreatDoor
