import Derived.Test.YtdeklanmddlgpaaGreatDoorSEze0
import Derived.Test.YtdeklanmddlgpaaGreatDoorSEzb
import Derived.Test.YtdeklanmddlgpaaGreatDoorSEz1
import Derived.Test.YtdeklanmddlgpaaGreatDoorSPcatch
import Derived.Test.YtdeklanmddlgpaaGreatDoorSLaidU
import Derived.Test.YtdeklanmddlgpaaGreatDoorSEy1
import Derived.Test.YtdeklanmddlgpaaGreatDoorSNo
set_option maxRecDepth 100000
set_option maxHeartbeats 16000000
namespace Go.Proofs.YtdeklanmddlgpaaGreatDoor
section
open Go.RowKit Px
namespace Ew
open Px.Em (Kd Vr Bn Bo DM Rg As)
open Nx (Nt Sp)
section
variable {A P:Nat->Prop}{w:World}{ns:List AW}{kb E:Nat}{k:Kd}
theorem Ws {ls:List (List (St 6))}:Em.tick ls k=Em.GN k.net.places ls (AL k 1):=rfl
theorem UF {ls:List (List (St 6))}{v:Value}(hV:CX A w (AG A w 6) ls v) (hlay:∀l∈ls,Im 6 l/\GT ns 6 l/\GS 6 l) (hE:E+1+(ls.map (Cj 6)).sum<1000000) (hll:ls.length≤100000) (h:Bg E ns P w kb k) (hR:Ro A P w) :
    Calls Tryz.prog 96 #[.pointer (some ⟨kb,0,none⟩),v] w (B5 (E+1+(ls.map (Cj 6)).sum) ns P kb w k (Em.tick ls k) (fun _=>.tuple #[])):=by
 obtain ⟨ad,gd,cap,rfl,hmx,hg,hat⟩:=hV.len
 have hAg:0<ls.length->A gd:=fun hp=>by
  obtain ⟨xs,hr,_⟩:=hV
  exact hr.2 gd (by rw[(hg hp).1];rfl)
 obtain ⟨n,hn⟩:∃n,n=ls.length:=⟨_,rfl⟩
 rw[<-hn] at hg hAg hll ⊢
 obtain ⟨p,hp⟩:∃p,p=k.net.places:=⟨_,rfl⟩
 obtain ⟨Z,hZ⟩:∃Z,Z=Em.tick ls k:=⟨_,rfl⟩
 have HZ:Hid (Z=Em.GN p ls (AL k 1)):=by rw[Hid,hZ,hp,Ws]
 rw[<-hZ]
 obtain ⟨EE,hEE⟩:∃EE,EE=E+1+(ls.map (Cj 6)).sum:=⟨_,rfl⟩
 rw[<-hEE] at hE ⊢
 have HE:Hid (EE=E+1+(ls.map (Cj 6)).sum/\EE<1000000):=⟨hEE,hE⟩
 have HP:Hid (∀b,P b->b<w.heap.size):=h.2.2
 have HH:Hid (Ro A P w/\n=ls.length/\∀l∈ls,Im 6 l/\GT ns 6 l/\GS 6 l):=⟨hR,hn,hlay⟩
 have HG:Hid (0<n->ad=some ⟨gd,0,none⟩/\A gd):=fun hp=>⟨(hg hp).1,hAg hp⟩
 have HAT:Hid (∀(i:Nat) (r:List (St 6)),ls[i]?=some r->∃u,w.cell? ⟨gd,i,none⟩=some u/\AG A w 6 r u):=hat
 have hpl:=IP (x:=1) h (by omega) ⟨by omega,by omega⟩
 rw[<-hp] at hpl
 have HKP:Hid (k.net.places≤(AL k 1).net.places):=by show k.net.places≤k.net.places+1;omega
 clear hV h hR hn hZ hp hg hAg hat hmx hlay hEE hE
 go_enter Tryz.func96,Tryz.ntmps96
 go_upto_region 2 with (go_at_call 145;refine hpl.mono ?_;rintro e w1 ⟨rfl,h1⟩)
 have A1:Hid (At (E+1) ns P kb w k w1 (AL k 1)):=⟨h1.out.1,h1.out.2,HKP.out⟩
 clear hpl h1
 go_loopg [13] n (fun f i wr=>∃(j:Nat) (kj:Kd),f=n-j/\j≤n/\i=.int .i64 (j:Int)/\Hid (Z=Em.GN p (ls.drop j) kj/\At (E+1+((ls.take j).map (Cj 6)).sum) ns P kb w k wr kj))
 case atStart=>exact ⟨0,AL k 1,by omega,by omega,rfl,HZ.out,by simpa using A1.out⟩
 case round=>
  obtain ⟨j,kj,rfl,hj,rfl,hr⟩:=hrel
  obtain ⟨hr1,hA⟩:=hr.out
  by_cases hlt:j<n
  ·obtain ⟨l,hl⟩:∃l:List (St 6),ls[j]?=some l:=⟨_,List.getElem?_eq_getElem (by rw[<-HH.out.2.1];exact hlt)⟩
   obtain ⟨u,c0,hu⟩:=HAT.out j l hl
   have kp:AY A A w wr:=hA.keep HH.out.1
   have c0:=Ak kp (HG.out (by omega)).2 c0
   have hu:=hu.carry kp
   have hix:=dH ad gd n cap j hlt (fun hp=>(HG.out hp).1)
   have hlm:=HH.out.2.2 l (List.mem_of_getElem? hl)
   obtain ⟨E1,hE1⟩:∃E1,E1=E+1+((ls.take (j+1)).map (Cj 6)).sum:=⟨_,rfl⟩
   have hEs:E+1+((ls.take j).map (Cj 6)).sum+Cj 6 l=E1:=by rw[hE1,ET (Cj 6) hl];omega
   have hEl:E1<1000000:=by have:=EO (Cj 6) hl;have:=HE.out;omega
   have hlay:=RA (A:=A) (kb:=kb) (ns:=ns) 6 hu hlm.1 hlm.2.1 hlm.2.2 hA.1 (hA.ro HH.out.1) (by rw[hEs];exact hEl)
   rw[hEs] at hlay
   have HJ:Hid (At (E+1+((ls.take j).map (Cj 6)).sum) ns P kb w k wr kj/\Z=Em.GN p (l::ls.drop (j+1)) kj/\E1<1000000/\E1=E+1+((ls.take (j+1)).map (Cj 6)).sum):=⟨hA,by rw[hr1,BN hl],hEl,hE1⟩
   clear hr hr1 hA hl hu kp hlm hE1 hEs hEl
   go_upto_region 5 with (go_at_call 147;refine hlay.mono ?_;rintro e w2 ⟨g,rfl,h2⟩)
   obtain ⟨r,k2,P2,R2,hz,L2⟩:=h2.out
   obtain ⟨r,rfl⟩:∃r':DM (St 5) (Rg 5),r=r':=⟨r,rfl⟩
   obtain ⟨gS,aS,cS,vo,hgk,hAg,hS,hord,hst⟩:Tc (fun x=>A x\/R2 x) w2 (B4 (fun x=>A x\/R2 x) 5 w2) r g:=L2.rg
   have hok:Tn ns (Bp ns 5) r:=L2.ok
   have hth:0≤r.there/\r.there<k2.net.places:=L2.th
   obtain ⟨t,ht⟩:∃t:Nat,r.there=(t:Int):=⟨r.there.toNat,by omega⟩
   obtain ⟨f0,hf0⟩:∃f0:Nat,r.first=(f0:Int):=⟨r.first.toNat,by have:=hok.f.1;omega⟩
   obtain ⟨m,hm⟩:∃m,m=r.states.length:=⟨_,rfl⟩
   obtain ⟨fl,hfl⟩:∃fl,fl=k2.net.first.length:=⟨_,rfl⟩
   have htl:t<k2.net.first.length:=by have:=L2.cm.2.1.len;omega
   obtain ⟨b,capb,b1,hPb,⟨bu,b2⟩,b3,hC3,hF3⟩:=L2.cm.zeroed htl
   rw[<-hfl] at b1 htl
   have hixt:=bF b fl capb t htl
   rw[<-hm,ht,hf0] at hgk
   have g3:=AA hgk 3 (u:=.int .i64 (t:Int)) rfl
   obtain ⟨W3,hW3⟩:∃W3,W3=(w2.setCell ⟨b,t,none⟩ (.int .i64 0)).drew:=⟨_,rfl⟩
   have hC3':Bg E1 ns P2 W3 kb (zeroed k2 t):=by rw[hW3];exact hC3.drew
   have hF3':Ap P2 w2 W3:=by rw[hW3];exact hF3.drew
   have nA:∀x,A x\/R2 x->x<w2.heap.size/\¬P2 x:=fun x hx=>by
    have h0:=HJ.out.1.ro HH.out.1
    rcases hx with hx|hx
    ·exact ⟨Nat.lt_of_lt_of_le (h0 x hx).1 L2.fr.size,fun hp=>(L2.up x hp).elim (h0 x hx).2 fun h=>absurd h.1 (by have:=(h0 x hx).1;omega)⟩
    ·exact ⟨(L2.rn x hx).2,fun hp=>L2.dr x hp hx⟩
   have k3:AY (fun x=>A x\/R2 x) (fun x=>A x\/R2 x) w2 W3:=fun x hx hl=>⟨hx,hF3'.block x hl (nA x hx).2⟩
   have hg3:=Dj k3 hAg hgk
   have HL:Hid (Laid A ns (Up P w wr) kb wr kj 6 E1 r g P2 R2 w2 k2/\Ap P2 w2 W3/\Bg E1 ns P2 W3 kb (zeroed k2 t)/\B4 (fun x=>A x\/R2 x) 6 W3 r g/\Bp ns 6 r/\r.there=(t:Int)/\r.first=(f0:Int)/\m=r.states.length/\(∀x,A x\/R2 x->x<w2.heap.size/\¬P2 x)/\f0<m/\k2.net.places≤(zeroed k2 t).net.places):=⟨L2,hF3',hC3',B4.carry 6 k3 r g L2.rg,L2.ok,ht,hf0,hm,nA,by have:=hok.f.2;omega,Int.le_refl _⟩
   have HZ2:Hid (Z=((Em.AE 6).goOn r (t:Int) (Em.Ba (List.replicate m []) (f0:Int) p false) >>= fun _=>Em.GN p (ls.drop (j+1))) (zeroed k2 t)):=by
    rw[Hid,HJ.out.2.1,PN hz ht,ht,hf0,<-hm]
   have hm6:m≤1000000:=by rw[hm];exact hok.n
   have s0:=AA hg3 0 (u:=.slice aS m cS) rfl
   have s2:=AA hg3 2 (u:=.int .i64 (f0:Int)) rfl
   have s3:=AA hg3 3 (u:=.int .i64 (t:Int)) rfl
   have HGK:Hid (W3.heap[g]?=some (.cells #[.slice aS m cS,vo,.int .i64 (f0:Int),.int .i64 (t:Int),.bool r.idle,.bool r.leaves] 223 (0,0))/\(A g\/R2 g)):=⟨hg3,hAg⟩
   clear h2 hz L2 hgk hAg hS hord hst hok hth ht hf0 hm hfl htl hPb hC3 hF3 hC3' hF3' nA k3 hg3 hlay hix c0
   go_region
   all_goals
    rw[<-hW3]
    clear hW3 b1 b2 b3 g3 hixt
    obtain ⟨W4,hW4⟩:∃W4,W4=W3.alloc (.cells (Array.replicate m (Value.slice none 0 0)) 271):=⟨_,rfl⟩
    obtain ⟨b0,hb0⟩:∃b0,b0=W3.heap.size:=⟨_,rfl⟩
    have hb4:Below W3.heap.size W3 W4:=by rw[hW4];exact AC _ _
    have hI4:JK (fun x=>x=b0) W4 b0 (List.replicate m []) 0:=MW (by rw[hW4,hb0,List.toArray_replicate];exact Aa W3 _)
    have hmk:∀W,(Instr.makeSlice 225 (.int .i64 (m:Int)) (.int .i64 (m:Int))).run Tryz.prog W=.ok (.slice (some ⟨W.heap.size,0,none⟩) m m) (W.alloc (.cells (List.replicate m (Value.slice none 0 0)).toArray 271)):=fun W=>VB W m hm6
    have hadd:=Hl (i:=f0) p false hI4 (by rw[List.length_replicate];exact HL.out.2.2.2.2.2.2.2.2.2.1) (by omega)
    rw[List.length_replicate] at hadd
    have q2:=AO hb4 s2
    have HB4:Hid (Below W3.heap.size W3 W4/\b0=W3.heap.size/\JK (fun x=>x=b0) W4 b0 (List.replicate m []) 0/\W4.heap.size=W3.heap.size+1):=⟨hb4,hb0,hI4,by rw[hW4];simp⟩
    clear hb4 hI4 s2 s3
    go_upto_region 7 with fail
    rw[<-hW4,<-hb0]
    clear hW4 hb0 hmk s0
    go_upto_region 8 with (go_at_call 148;refine hadd.mono ?_;rintro e w5 ⟨rfl,h5⟩)
    have hb5:Below W3.heap.size W3 w5:=HB4.out.1.trans (h5.out.2.below (B:=W3.heap.size) (by have:=HB4.out.2.2.2;omega) fun x hx=>by rw[hx,HB4.out.2.1];exact Nat.le_refl _)
    have hsz:w2.heap.size≤W3.heap.size:=HL.out.2.1.size
    have hgo:=Vi HJ.out.2.2.1 6 (A:=fun x=>A x\/R2 x) (kb:=kb) (ns:=ns) (P:=P2) (T:=Up (fun x=>x=b0) W4 w5) (w:=w5) (k:=zeroed k2 t) (r:=r) (g:=g) (b:=b0) (here:=(t:Int)) (t:=Em.Ba (List.replicate m []) (f0:Int) p false) (c:=0+1) (B4.carry 6 (fun x hx hl=>⟨hx,hb5.block x hl⟩) r g HL.out.2.2.2.1) HL.out.2.2.2.2.1 (HL.out.2.2.1.below hb5) h5.out.1 (fun x hx hu=>by
     have h1:=HL.out.2.2.1.2.2 x hx
     rcases hu with hu|hu
     ·rw[hu,HB4.out.2.1] at h1;omega
     ·have:=HB4.out.2.2.2;omega) (fun x hx=>⟨by have:=(HL.out.2.2.2.2.2.2.2.2.1 x hx).1;have:=hb5.size;omega,fun hu=>by
     have h1:=HL.out.2.2.2.2.2.2.2.2.1 x hx
     rcases hu with hu|hu|hu
     ·exact h1.2 hu
     ·rw[hu,HB4.out.2.1] at h1;omega
     ·have:=HB4.out.2.2.2;omega⟩) (by rw[Ej,List.length_replicate];exact HL.out.2.2.2.2.2.2.2.1) (by omega)
    have HT:Hid (∀e w6,Ek E1 ns P2 (Up (fun x=>x=b0) W4 w5) kb w5 (zeroed k2 t) ((Em.AE 6).goOn r (t:Int) (Em.Ba (List.replicate m []) (f0:Int) p false) (zeroed k2 t)) e w6->(e=WZ/\Hid ((Em.AE 6).goOn r (t:Int) (Em.Ba (List.replicate m []) (f0:Int) p false) (zeroed k2 t)=none)/\Hid (Ap P w w6))\/∃k5,e=.returned (.tuple #[])/\Hid ((Em.AE 6).goOn r (t:Int) (Em.Ba (List.replicate m []) (f0:Int) p false) (zeroed k2 t)=some ((),k5))/\Hid (At E1 ns P kb w k w6 k5)):=fun e w6 hG=>
     UE HP.out HJ.out.1.2.1 HJ.out.1.2.2 HL.out.1 HL.out.2.1 HL.out.2.2.2.2.2.2.2.2.2.2 (Ek.ran hb5 HL.out.2.2.1.2.2 (fun x hx=>by
      rcases hx with hx|hx
      ·rw[hx,HB4.out.2.1];exact Nat.le_refl _
      ·have:=HB4.out.2.2.2;omega) hG)
    have hs:(Em.AE 6).size r=m:=HL.out.2.2.2.2.2.2.2.1.symm
    rw[hs] at hgo
    have q3:=AA (AM hb5 HGK.out.1) 3 (u:=.int .i64 (t:Int)) rfl
    clear hb5 hsz h5 hadd q2 hs
    go_wp2_with (go_at_call 149;refine hgo.mono ?_;intro e w6 h6;rcases HT.out _ _ h6 with ⟨rfl,h0,h1⟩|⟨k6,rfl,h0,h1⟩;(· exact ⟨rfl,.inl ⟨rfl,HZ2.out.trans (AD h0.out),h1⟩⟩);have HN:Hid (Z=Em.GN p (ls.drop (j+1)) k6/\At E1 ns P kb w k w6 k6):=⟨HZ2.out.trans (bind_some h0.out),h1.out⟩;clear h0 h1 h6 hgo)
    go_roundg (n-(j+1))
    case measure=>omega
    case rel=>exact ⟨j+1,k6,rfl,by omega,by go_num,HN.out.1,by rw[<-HJ.out.2.2.2];exact HN.out.2⟩
  ·have HF:Hid (B5 EE ns P kb w k Z (fun _=>.tuple #[]) (.returned (.tuple #[])) wr):=by
    have hjn:j=n:=by omega
    have he:ls.take j=ls:=List.take_of_length_le (by rw[hjn,HH.out.2.1];exact Nat.le_refl _)
    rw[he,<-HE.out.1] at hA
    refine At.ends (a:=()) hA ?_
    rw[hr1,List.drop_eq_nil_of_le (by rw[<-HH.out.2.1];omega)]
    rfl
   clear hr hr1 hA
   go_wp2_with fail
   go_end0
   exact HF.out
end
end Ew
end
section
open Go.RowKit Px
theorem Js {ρ:Type}{vs:List Ac}{R:List ρ->Nat->Lh}{l:List (Ah ρ)}{n m:Nat}(h:FR vs R l n=.ok m):Cy l=1:=by
 unfold FR at h
 split at h
 ·exact absurd h (by simp)
 ·split at h
  ·exact absurd h (by simp)
  ·rename_i hw
   have hw:BC l=0:=by omega
   unfold BC at hw
   split at hw
   ·simp at hw
   ·split at hw
    ·simp at hw
    ·omega
theorem IG {α:Type}{f:α->Nat}:∀{l:List α},(∀a∈l,1≤f a)->l.length≤Cc f l
 | [],_=>Nat.le_refl _
 | a::r,h=>by
  have h1:=h a (List.mem_cons_self ..)
  have h2:=IG (l:=r) fun b hb=>h b (List.mem_cons_of_mem _ hb)
  rw[Cc,List.length_cons];omega
theorem LE {vs:List Ac}:∀{k:Nat}{l:List (St k)}{n m:Nat},Ee vs k l n=.ok m->1≤Mu k l
 | 0,l,n,m,h=>by simp[Ee] at h
 | k+1,l,n,m,h=>by
  have h1:=Js (show FR vs (Ee vs k) l n=.ok m from h)
  have h2:(List.filter (fun s:Ah (St k)=>s.first) l).length≤l.length:=List.length_filter_le _ _
  have h3:l.length≤Mu (k+1) l:=Ji (O7 (k+1)) l
  unfold Cy at h1
  omega
theorem VI {vs:List Ac}:∀{k:Nat}{l:List (St k)}{n m:Nat},Ee vs k l n=.ok m->(∀x∈l,Qo k x)->Mu k l≤1000000->Im k l
 | 0,l,n,m,h,_,_=>by simp[Ee] at h
 | k+1,l,n,m,h,hN,hc=>by
  have hr:=show FR vs (Ee vs k) l n=.ok m from h
  obtain ⟨⟨o,_,hd,ht⟩,hs⟩:=XG hr
  have h3:l.length≤Mu (k+1) l:=Ji (O7 (k+1)) l
  refine ⟨Js hr,hd,ht,by omega,fun s hs'=>?_⟩
  obtain ⟨hn,hi⟩:=hN s hs'
  obtain ⟨n1,_,_,_,_,n2,n3⟩:=hn
  have h4:1+O7 (k+1) s≤Mu (k+1) l:=Jh (fun x:St (k+1)=>1+O7 (k+1) x) hs'
  have h5:O7 (k+1) s=Cc (Mu k) (Ah.regions s):=rfl
  obtain ⟨n',m',hq⟩:=hs s hs'
  have h6:(Ah.regions s).length≤Cc (Mu k) (Ah.regions s):=IG fun r hr=>by
   obtain ⟨n',m',hq'⟩:=Ed hq r hr
   exact LE hq'
  refine ⟨n1,n3,by omega,fun y hy=>(n2 y hy).1,fun r hr=>?_⟩
  obtain ⟨n',m',hq'⟩:=Ed hq r hr
  have h7:=Jh (Mu k) hr
  exact VI hq' (hi r hr) (by omega)
theorem LY {c:CO}(h:CV c=none) (hN:GE c):(∀r∈c.regions,Im 6 r)/\c.regions.length≤1000000:=by
 unfold CV at h
 split at h
 ·exact absurd h (by simp)
 ·split at h
  ·exact absurd h (by simp)
  ·split at h
   ·exact absurd h (by simp)
   ·rename_i m hm
    refine ⟨fun r hr=>?_,?_⟩
    ·obtain ⟨n,m,hq⟩:=Ed hm r hr
     have:=Jh (Mu 6) hr
     have:=hN.many
     exact VI hq (hN.sts r hr) (by omega)
    ·have:=IG (f:=Mu 6) (l:=c.regions) fun r hr=>by
      obtain ⟨n,m,hq⟩:=Ed hm r hr
      exact LE hq
     have:=hN.many
     omega
def Qp:E->Prop
 | .nil=>True
 | .node _ _ a l r=>Cq a.num/\Qp l/\Qp r
def Il (l:List Cx):Prop:=∀a∈l,Qp a.e
def Yh {ρ:Type}(s:Ah ρ):Prop:=Il s.enter/\Il s.during/\Il s.leave/\Qp s.rests/\∀y∈s.ways,Qp y.cond/\Il y.sets
def WQ:(k:Nat)->St k->Prop
 | 0=>fun _=>True
 | k+1=>fun s=>Yh s/\∀r∈Ah.regions s,∀x∈r,WQ k x
theorem Gk.of:∀{e:E},Kt e->Qp e->Gk e
 | .nil,_,_=>trivial
 | .node _ _ _ _ _,h,k=>⟨h.1,k.1,Gk.of h.2.1 k.2.1,Gk.of h.2.2 k.2.2⟩
theorem Xw {ns:List AW}{s:AW}(h:(DQ ns s).isNone=false):s∈ns:=by
 cases hf:DQ ns s with
 | none=>rw[hf] at h;simp at h
 | some i=>
  obtain ⟨h1,h2,_⟩:=Ho hf
  rw[<-h2,List.getD_eq_getElem?_getD,List.getElem?_eq_getElem h1]
  exact List.getElem_mem h1
theorem LC {vs:List Ac}:∀{l:List Cx},Au vs l=0->∀a∈l,Ey vs a=0
 | [],_,a,h=>by simp at h
 | b::r,h,a,ha=>by
  rw[Au] at h
  split at h
  ·rename_i hb;exact absurd h hb
  ·rename_i hb
   rcases List.mem_cons.1 ha with rfl|ha
   ·omega
   ·exact LC h a ha
theorem G7 {vs:List Ac}{l:List Cx}(h:Au vs l=0) (hn:Dz l) (hb:Il l):Fs (Ai vs) l:=fun a ha=>by
 have h1:=LC h a ha
 unfold Ey at h1
 split at h1
 ·simp at h1
 ·rename_i h2
  simp only[Bool.or_eq_true,not_or,Bool.not_eq_true] at h2
  exact ⟨Xw h2.1,(hn a ha).1,Gk.of (hn a ha).2 (hb a ha)⟩
theorem Ku {vs:List Ac}{ns:List AW}{b:Bool}:∀{l:List Wy},Dp vs ns b l=0->∀y∈l,Es vs ns b y=0
 | [],_,y,h=>by simp at h
 | z::r,h,y,hy=>by
  rw[Dp] at h
  split at h
  ·rename_i hb;exact absurd h hb
  ·rename_i hb
   rcases List.mem_cons.1 hy with rfl|hy
   ·omega
   ·exact Ku h y hy
theorem Rd {vs:List Ac}{ns:List AW}{b:Bool}{y:Wy}(h:Es vs ns b y=0):Au vs y.sets=0:=by
 unfold Es at h
 split at h
 ·simp at h
 ·split at h
  ·simp at h
  ·split at h
   ·simp at h
   ·exact h
theorem Mn {ρ:Type}{vs:List Ac}{ns:List AW}{s:Ah ρ}(h:KW vs ns s=0):Au vs s.enter=0/\Au vs s.during=0/\Au vs s.leave=0/\∃b,Dp vs ns b s.ways=0:=by
 unfold KW at h
 split at h
 ·simp at h
 ·split at h
  ·rename_i hb;exact absurd h hb
  ·split at h
   ·rename_i hb;exact absurd h hb
   ·split at h
    ·rename_i hb;exact absurd h hb
    ·split at h
     ·simp at h
     ·exact ⟨by omega,by omega,by omega,_,h⟩
theorem Yt {ρ:Type}{vs:List Ac}{ns:List AW}{i:Nat}{s:Ah ρ}(h:DB vs ns i s=0) (hn:Lj s) (hb:Yh s) (hr:s.regions.length≤maxLen):cA (Ai vs) s:=by
 unfold DB at h
 split at h
 ·simp at h
 ·obtain ⟨a1,a2,a3,b,a4⟩:=Mn h
  obtain ⟨_,n1,n2,n3,n4,n5,n6⟩:=hn
  obtain ⟨b1,b2,b3,b4,b5⟩:=hb
  exact ⟨G7 a1 n1 b1,G7 a2 n2 b2,G7 a3 n3 b3,Gk.of n4 b4,fun y hy=>⟨Gk.of (n5 y hy).2.1 (b5 y hy).1,G7 (Rd (Ku a4 y hy)) (n5 y hy).2.2 (b5 y hy).2⟩,by unfold maxLen;omega,hr⟩
theorem NP {vs:List Ac}:∀{k:Nat}{l:List (St k)}{n m:Nat},Ee vs k l n=.ok m->(∀x∈l,Qo k x)->(∀x∈l,WQ k x)->Im k l->GT (Ai vs) k l
 | 0,_,_,_,_,_,_,_=>trivial
 | k+1,l,n,m,h,hN,hB,hL=>by
  have hr:=show FR vs (Ee vs k) l n=.ok m from h
  obtain ⟨_,_,_,_,hl⟩:=hL
  intro s hs
  have hst:∃m',CP vs (Ee vs k) (AU (ρ:=St k) l) l 0 n=.ok m':=by
   unfold FR at hr
   split at hr
   ·exact absurd hr (by simp)
   ·rename_i m' hm';exact ⟨m',hm'⟩
  obtain ⟨m',hm'⟩:=hst
  obtain ⟨⟨i,hi⟩,n',m'',hq⟩:=GW hm' s hs
  obtain ⟨_,_,l3,_,l5⟩:=hl s hs
  refine ⟨Yt hi (hN s hs).1 (hB s hs).1 (by unfold maxLen;omega),fun r hr'=>?_⟩
  obtain ⟨n1,m1,hq'⟩:=Ed hq r hr'
  exact NP hq' ((hN s hs).2 r hr') ((hB s hs).2 r hr') (l5 r hr')
theorem QZ {c:CO}(h:CV c=none) (hN:GE c) (hB:∀r∈c.regions,∀x∈r,WQ 6 x):WX c:=by
 obtain ⟨h1,h2⟩:=LY h hN
 refine ⟨hN.vars,hN.names,by unfold maxLen;omega,?_⟩
 unfold CV at h
 split at h
 ·exact absurd h (by simp)
 ·split at h
  ·exact absurd h (by simp)
  ·split at h
   ·exact absurd h (by simp)
   ·rename_i m hm
    intro r hr
    obtain ⟨n,m,hq⟩:=Ed hm r hr
    exact NP hq (hN.sts r hr) (hB r hr) (h1 r hr)
end
section
open Go.RowKit Px
namespace Kx
theorem dE {e:E}(h:Sh.TE e):Qp e:=by
 induction e with
 | nil=>trivial
 | node b o a l r ihl ihr=>
  obtain ⟨h1,h2,h3,h4,_,h5,h6⟩:=h
  exact ⟨h3,ihl h5,ihr h6⟩
theorem bv {l:List Cx}(h:Sh.TS l):Il l:=fun a ha=>dE (h a ha).1
theorem dD:∀(k:Nat) (x:St k),Sh.YJ k x->WQ k x:=by
 intro k
 induction k with
 | zero=>intro x _;trivial
 | succ k ih=>
  intro x h
  obtain ⟨h0,h1,h2,h3,h4,h5,h6⟩:=h
  exact ⟨⟨bv h1,bv h2,bv h3,dE h4,fun y hy=>⟨dE (h5 y hy).2.2.1,bv (h5 y hy).2.2.2.1⟩⟩,fun r hr y hy=>ih y (h6 r hr y hy)⟩
theorem Q8 {L:List Lx.CF}(hL:Wf L) {c:CO}(h:BA L=.ok c):(∀r∈c.regions,∀x∈r,WQ 6 x)/\∀v∈c.vars,Cq v.first:=by
 obtain ⟨h1,h2,h3⟩:=Sh.Mg hL h
 exact ⟨fun r hr x hx=>dD 6 x (h2 r hr x hx),fun v hv=>⟨(h1 v hv).1.2.2.1,(h1 v hv).1.2.2.2⟩⟩
structure bX (c:CO):Prop where
 ok:CV c=none
 nm:GE c
 run:WX c
 n64:∀v∈c.vars,Cq v.first
theorem cn {s:ByteArray}{l:List Lx.CF}{c:CO}(hok:Lx.Ok (bs s) l) (hch:BA (Ia s l)=.ok c) (h:CV c=none):bX c:=
 ⟨h,ML (JW hok) hch,QZ h (ML (JW hok) hch) (Q8 (JW hok) hch).1,(Q8 (JW hok) hch).2⟩
end Kx
end
section
open Go.RowKit Px
namespace Ew
theorem EF {α:Type}(f:α->Nat):∀l:List α,Sh.CH f l=(l.map f).sum
 | []=>rfl
 | a::r=>by rw[Sh.CH,EF f r];rfl
theorem Ly {α:Type}{f g:α->Nat}:∀{l:List α},(∀a∈l,f a≤g a)->(l.map f).sum≤(l.map g).sum
 | [],_=>Nat.le_refl _
 | a::r,h=>by
  have h1:=h a (by simp)
  have h2:=Ly (l:=r) fun x hx=>h x (by simp[hx])
  simp only[List.map_cons,List.sum_cons]
  omega
theorem Jg {α:Type}{f:α->Nat}:∀{l:List α},(∀a∈l,1≤f a)->l.length≤(l.map f).sum
 | [],_=>Nat.le_refl _
 | a::r,h=>by
  have h1:=h a (by simp)
  have h2:=Jg (l:=r) fun x hx=>h x (by simp[hx])
  simp only[List.map_cons,List.sum_cons,List.length_cons]
  omega
theorem Tz:∀(d:Nat) (l:List (St d)),Cj d l≤Sh.wR (Sh.DA d) l
 | 0,l=>by show 1≤1+Sh.CH (Sh.DA 0) l;omega
 | d+1,l=>by
  show 1+(List.map (DA (Cj d)) (show List (Ah (St d)) from l)).sum≤1+Sh.CH (Sh.Dq (Sh.DA d)) (show List (Ah (St d)) from l)
  rw[EF]
  refine Nat.add_le_add_left (Ly fun s _=>?_) 1
  have h1:s.ways.length≤Sh.CH Sh.wW s.ways:=by rw[EF];exact Jg fun y _=>by unfold Sh.wW;omega
  have h2:(s.regions.map (Cj d)).sum≤Sh.CH (Sh.wR (Sh.DA d)) s.regions:=by rw[EF];exact Ly fun r _=>Tz d r
  unfold DA Sh.Dq
  omega
theorem MM {α:Type}(f:α->Nat) {l:List α}{a:α}(h:a∈l):f a≤(l.map f).sum:=by
 induction l with
 | nil=>simp at h
 | cons b r ih=>
  simp only[List.map_cons,List.sum_cons]
  rcases List.mem_cons.1 h with rfl|h
  ·omega
  ·have:=ih h;omega
theorem NF:∀(d:Nat) (l:List (St d)),(∀x∈l,Sh.YJ d x)->Sh.wR (Sh.DA d) l≤1000000->GS d l
 | 0,_,_,_=>trivial
 | d+1,l,h,hw=>by
  intro s hs
  obtain ⟨h0,h1,h2,h3,h4,h5,h6⟩:Sh.Kr (Sh.YJ d) s:=h s hs
  have hw':1+Sh.CH (Sh.Dq (Sh.DA d)) (show List (Ah (St d)) from l)≤1000000:=hw
  rw[EF] at hw'
  have hm:=MM (Sh.Dq (Sh.DA d)) (l:=(show List (Ah (St d)) from l)) hs
  have e:Sh.Dq (Sh.DA d) s=1+Sh.wS s.enter+Sh.wS s.during+Sh.wS s.leave+Sh.wE s.rests+Sh.CH Sh.wW s.ways+Sh.CH (Sh.wR (Sh.DA d)) s.regions:=rfl
  have a1:=Sh.Ty s.during
  have a2:=Sh.Ty s.leave
  refine ⟨by omega,by omega,fun y hy=>by have:=(h5 y hy).2.1;omega,fun r hr=>NF d r (fun x hx=>h6 r hr x hx) ?_⟩
  have:=MM (Sh.wR (Sh.DA d)) hr
  rw[<-EF] at this
  omega
structure Z6 (c:CO):Prop where
 run:Kx.bX c
 tm:∀r∈c.regions,GS 6 r
 lay:∀r∈c.regions,Im 6 r
 few:c.vars.length+(c.regions.map (Cj 6)).sum≤1000
theorem fI {s:ByteArray}{l:List Lx.CF}{c:CO}(hok:Lx.Ok (bs s) l) (hch:BA (Ia s l)=.ok c) (h:CV c=none):Z6 c:=by
 obtain ⟨h1,h2,h3⟩:=Sh.Mg (JW hok) hch
 have hr:=Kx.cn hok hch h
 rw[EF] at h3
 refine ⟨hr,fun r hr=>NF 6 r (h2 r hr) ?_,(LY h hr.nm).1,?_⟩
 ·have:=MM (Sh.wR (Sh.DA 6)) hr;omega
 ·have:=Ly (f:=Cj 6) (g:=Sh.wR (Sh.DA 6)) (l:=c.regions) fun r _=>Tz 6 r;omega
end Ew
end
section
open Go.RowKit
namespace Nx
def Ka (B:Nat) (w:World) (v:Value) (f:Nat×Int):Prop:=
 (f.1=0/\f.2=-1/\v=.nilIface)\/(f.1≠0/\f.2=-1/\v=.iface 94 (.int .i64 f.1)) \/
  (f.1≠0/\∃g q:Nat,f.2=q/\B≤g/\v=.iface 115 (.pointer (some ⟨g,0,none⟩))/\w.heap[g]?=some (.cells #[.int .i64 f.1,.int .i64 q] 117 (0,0)))
theorem Oe (B:Nat) (n:Nt) (w:World) (vF vI vO vK vN vC:Value) (h:Cg B w n vF vI vO vK vN vC) (hB:B≤w.heap.size) (hs:B3 n) (hw:BC n≠0) :
    Calls Tryz.prog 29 #[.agg #[.int .i64 n.places,vF,vI,vO,vK,vN,vC]] w fun e w'=>e=.returned (.iface 94 (.int .i64 (BC n:Nat)))/\Below w.heap.size w w':=by
 have hwh:=Fx B n w.heap.size (w.alloc (.cells #[.int .i64 n.places,vF,vI,vO,vK,vN,vC] 26)) vF vI vO vK vN vC (h.below ((AJ w _).mono hB) (Nat.le_refl _)) hs (by simp)
 obtain ⟨e,he⟩:∃e,e=BC n:=⟨_,rfl⟩
 rw[<-he] at hwh hw ⊢
 have t0:((e:Int) != 0)=true:=by simp;omega
 clear he hw h hB hs
 go_enter Tryz.func29,Tryz.ntmps29
 go_wp2_with (go_at_call 56;refine hwh.mono ?_;rintro e w1 ⟨rfl,hb1⟩)
 go_ret
 exact ⟨rfl,DF (AJ w _) hb1⟩
theorem Of (B:Nat) (n:Nt) (w:World) (vF vI vO vK vN vC:Value) (h:Cg B w n vF vI vO vK vN vC) (hB:B≤w.heap.size) (hs:B3 n) (hw:BC n=0) :
    Calls Tryz.prog 29 #[.agg #[.int .i64 n.places,vF,vI,vO,vK,vN,vC]] w fun e w'=>∃v,e=.returned v/\Ka w.heap.size w' v (EU n.places n.nums.length n.code 0)/\Below w.heap.size w w':=by
 have hwh:=Fx B n w.heap.size (w.alloc (.cells #[.int .i64 n.places,vF,vI,vO,vK,vN,vC] 26)) vF vI vO vK vN vC (h.below ((AJ w _).mono hB) (Nat.le_refl _)) hs (by simp)
 rw[hw] at hwh
 have hcl:=hs.c;have hml:=hs.m
 obtain ⟨adC,bC,offC,capC,rfl,hC1,hC2⟩:=h.c
 obtain ⟨adN,bN,offN,capN,rfl,-,-⟩:=h.m
 have HC1:Hid (_/\_):=⟨hC1,hC2⟩
 have HX:Hid (∀w1,Below (w.alloc (.cells #[.int .i64 n.places,vF,vI,vO,vK,.slice adN n.nums.length capN,.slice adC n.code.length capC] 26)).heap.size (w.alloc (.cells #[.int .i64 n.places,vF,vI,vO,vK,.slice adN n.nums.length capN,.slice adC n.code.length capC] 26)) w1->w1.cell? ⟨w.heap.size,0,none⟩=some (.int .i64 n.places)/\w1.cell? ⟨w.heap.size,5,none⟩=some (.slice adN n.nums.length capN)/\w1.cell? ⟨w.heap.size,6,none⟩=some (.slice adC n.code.length capC)/\Below w.heap.size w w1/\w.heap.size<w1.heap.size):=
  fun w1 hb=>⟨Az hb (by simp),Az hb (by simp),Az hb (by simp),DF (AJ w _) hb,by have:=hb.size;simp at this;omega⟩
 clear h hs hw hC1 hC2
 go_enter Tryz.func29,Tryz.ntmps29
 go_wp2_with (go_at_call 56;refine hwh.mono ?_;rintro e w1 ⟨rfl,hb1⟩;obtain ⟨d0,d5,d6,hbw,hlw⟩:=HX.out w1 hb1;have HB1:Hid _:=hbw;clear hwh hb1 hbw)
 go_loopw [19] (fun i wr=>∃k:Nat,k≤n.code.length/\i=.int .i64 k/\(∀j,j<k->Bh n.places n.nums.length (n.code.getD j Ev)=0)/\Below w1.heap.size w1 wr) (fun i _=>n.code.length-(intOf i).toNat)
 case atStart=>exact ⟨0,Nat.zero_le _,rfl,fun j hj=>by omega,Below.refl _ _⟩
 case round=>
  obtain ⟨k,hk,rfl,hall,hbr⟩:=hrel
  have HA:Hid _:=hall
  have HBR:Hid _:=hbr
  have f0:=Az hbr d0
  have f5:=Az hbr d5
  have hbw:Hid _:=DF HB1.out hbr
  clear hall hbr
  by_cases hlt:k<n.code.length
  ·have hix:=bH adC bC offC n.code.length capC k hlt (fun h=>(HC1.out.1 h).1)
   obtain ⟨s,hs⟩:∃s,s=n.code.getD k Ev:=⟨_,rfl⟩
   have hb':wr.heap[bC]?=w.heap[bC]?:=hbw.out.block bC (by have:=(HC1.out.1 (by omega)).2;omega)
   obtain ⟨x0,x1,x2,x3,x4⟩:=HC1.out.2 k hlt
   rw[<-Av hb',<-hs] at x0 x1 x2 x3 x4
   have HS:Hid _:=hs
   have hst:=UJ s n.places n.nums.length w.heap.size (wr.alloc (.cells #[.int .i64 s.code,.int .i64 s.dst,.int .i64 s.a,.int .i64 s.b,.int .i64 s.c] 39)) (Az (AJ wr _) f0)
   have g5:=Az (AJ wr (.cells #[.int .i64 s.code,.int .i64 s.dst,.int .i64 s.a,.int .i64 s.b,.int .i64 s.c] 39)) f5
   obtain ⟨e,he⟩:∃e,e=Bh n.places n.nums.length s:=⟨_,rfl⟩
   rw[<-he] at hst
   have HE:Hid _:=he
   clear hs hb' he d0 d5 d6
   by_cases e0:e=0
   ·subst e0
    go_wp2_with (go_at_call 57;refine hst.mono ?_;rintro e w2 ⟨rfl,hb2⟩)
    go_roundw
    case rel=>exact ⟨k+1,by omega,by go_num,fun j hj=>by
     by_cases ej:j=k
     ·rw[ej,<-HS.out];exact HE.out.symm
     ·exact HA.out j (by omega),DF HBR.out (DF (AJ wr _) hb2)⟩
    case measure=>simp[intOf];omega
   ·have t0:((e:Int) != 0)=true:=by simp;omega
    have E0:Hid _:=e0
    clear e0
    go_wp2_with (go_at_call 57;refine hst.mono ?_;rintro e w2 ⟨rfl,hb2⟩)
    go_ret
    have hb3:Below w.heap.size w w2:=DF hbw.out (DF (AJ wr _) hb2)
    refine ⟨_,rfl,.inr (.inr ⟨?_,w2.heap.size,k,?_,hb3.size,rfl,?_⟩),hb3.alloc hb3.size _⟩
    ·rw[EZ _ _ _ k HA.out hlt (by rw[<-HS.out,<-HE.out];exact E0.out)]
     rw[<-HS.out,<-HE.out];exact E0.out
    ·rw[EZ _ _ _ k HA.out hlt (by rw[<-HS.out,<-HE.out];exact E0.out)]
    ·rw[EZ _ _ _ k HA.out hlt (by rw[<-HS.out,<-HE.out];exact E0.out),<-HS.out,<-HE.out]
     exact heap_alloc_new _ _
  ·go_wp2
   go_ret
   refine ⟨_,rfl,.inl ?_,hbw.out⟩
   rw[NK _ _ _ (fun j hj=>HA.out j (by omega))]
   exact ⟨rfl,rfl,rfl⟩
theorem Ct (B:Nat) (n:Nt) (w:World) (vF vI vO vK vN vC:Value) (h:Cg B w n vF vI vO vK vN vC) (hB:B≤w.heap.size) (hs:B3 n) :
    Calls Tryz.prog 29 #[.agg #[.int .i64 n.places,vF,vI,vO,vK,vN,vC]] w fun e w'=>∃v,e=.returned v/\Ka w.heap.size w' v (BS n)/\Below w.heap.size w w':=by
 unfold BS
 by_cases hw:BC n=0
 ·rw[if_pos hw];exact Of B n w vF vI vO vK vN vC h hB hs hw
 ·rw[if_neg hw]
  exact (Oe B n w vF vI vO vK vN vC h hB hs hw).mono fun e w' ⟨he,hb⟩=>⟨_,he,.inr (.inl ⟨hw,rfl,rfl⟩),hb⟩
end Nx
end
end Go.Proofs.YtdeklanmddlgpaaGreatDoor
