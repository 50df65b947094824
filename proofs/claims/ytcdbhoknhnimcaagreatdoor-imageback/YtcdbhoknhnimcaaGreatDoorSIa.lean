import Derived.Test.YtcdbhoknhnimcaaGreatDoorSNk
import Derived.Test.YtcdbhoknhnimcaaGreatDoorSNt3
import Derived.Maps.AppendAt
import Derived.Laws.IdiomStrings
import Derived.Laws.Bits64
set_option maxRecDepth 100000
set_option maxHeartbeats 16000000
namespace Go.Proofs.YtcdbhoknhnimcaaGreatDoor
section
open Go.RowKit Px
namespace Ew
open Nx (Nt Sp gJ aY8)
structure cN5 (A:Nat->Prop) (w:World) (n:Nt) (vF vI vO vK vN vC:Value):Prop where
 v:pK A w n vF vI vO vK vN vC
 s:Nx.eU n
 ok:Nx.dY n=(0,-1)
 nf:∀x∈n.first,gQ x
 nn:∀x∈n.nums,gQ x
theorem bT5 {B:Nat}{w:World}{n:Nt}{vF vI vO vK vN vC:Value}(h:gJ B w n vF vI vO vK vN vC):pK (fun b=>b<B) w n vF vI vO vK vN vC:=⟨h.f,h.i,h.o,h.k,h.m,h.c⟩
theorem aL9 {B:Nat}{w w':World}{n:Nt}{vF vI vO vK vN vC:Value}(h:gJ B w n vF vI vO vK vN vC) (hB:B≤w.heap.size) (hb:Below w.heap.size w w'):gJ w'.heap.size w' n vF vI vO vK vN vC:=h.below (hb.mono hB) (Nat.le_trans hB hb.size)
def cN6 (B:Nat) (w:World) (e:Ending) (w':World):Prop:=∃(n:Nt) (e1 e2 e3 e4 e5 e6:Option Addr) (l1 o1 l2 o2 l3 o3 l4 o4 l5 o5 l6 o6:Nat) (b:Bool),e=.returned (.tuple #[.agg #[.int .i64 n.places,.slice e1 l1 o1,.slice e2 l2 o2,.slice e3 l3 o3,.slice e4 l4 o4,.slice e5 l5 o5,.slice e6 l6 o6],.bool b])/\Hid (Below w.heap.size w w'/\(b=true->cN5 (fun x=>x<B\/w.heap.size≤x/\x<w'.heap.size) w' n (.slice e1 l1 o1) (.slice e2 l2 o2) (.slice e3 l3 o3) (.slice e4 l4 o4) (.slice e5 l5 o5) (.slice e6 l6 o6)))
theorem lQ (tmps:Array Value) (W:World) (c:Nat) (fc:Array Value) (v:Value) (hsz:fc.size=7) (hp:tmps[4]?.getD undef=.pointer (some ⟨c,0,none⟩)) (hq:tmps[5]?.getD undef=v) (hc:W.heap[c]?=some (.cells fc 26 (0,0))) :
    (results Tryz.f10 tmps).run Tryz.prog W=.ok (.tuple #[.agg fc,v]) W:=by
 simp[results,Tryz.results10,hp,hq,asAddr,C0 hsz hc]
section
variable {w:World}
theorem wX {s:ByteArray}{n:Nt}{e1 e2 e3 e4 e5 e6:Option Addr}{l1 o1 l2 o2 l3 o3 l4 o4 l5 o5 l6 o6 B:Nat}(hB:B≤w.heap.size) (hK:Kx.pV w) (hN:gJ B w n (.slice e1 l1 o1) (.slice e2 l2 o2) (.slice e3 l3 o3) (.slice e4 l4 o4) (.slice e5 l5 o5) (.slice e6 l6 o6)) (hnf:∀x∈n.first,gQ x) (hnn:∀x∈n.nums,gQ x) :
    Calls Tryz.prog 10 #[.string s,.agg #[.int .i64 n.places,.slice e1 l1 o1,.slice e2 l2 o2,.slice e3 l3 o3,.slice e4 l4 o4,.slice e5 l5 o5,.slice e6 l6 o6]] w (cN6 B w):=by
 obtain ⟨pl,hpl⟩:∃pl,pl=n.places:=⟨_,rfl⟩
 have HPL:Hid (pl=n.places):=hpl
 rw[<-hpl]
 obtain ⟨U1,hU1⟩:∃U1,U1=w.alloc (.cells #[.int .i64 pl,.slice e1 l1 o1,.slice e2 l2 o2,.slice e3 l3 o3,.slice e4 l4 o4,.slice e5 l5 o5,.slice e6 l6 o6] 26):=⟨_,rfl⟩
 obtain ⟨W0,hW0⟩:∃W0,W0=U1.alloc (.cells ZN 26):=⟨_,rfl⟩
 have s1:U1.heap.size=w.heap.size+1:=by rw[hU1];simp
 have b1:Below w.heap.size w U1:=by rw[hU1];exact aD _ _
 have b2:Below U1.heap.size U1 W0:=by rw[hW0];exact aD _ _
 have hb0:Below w.heap.size w W0:=aW b1 b2
 have HB:Hid (Below w.heap.size w W0/\W0.heap.size=w.heap.size+2/\W0.heap[w.heap.size]?=some (.cells #[.int .i64 pl,.slice e1 l1 o1,.slice e2 l2 o2,.slice e3 l3 o3,.slice e4 l4 o4,.slice e5 l5 o5,.slice e6 l6 o6] 26 (0,0))/\W0.heap[w.heap.size+1]?=some (.cells ZN 26 (0,0))):=⟨hb0,by rw[hW0];simp[s1],aR b2 (by rw[hU1];exact bF w _),by rw[<-s1,hW0];exact bF U1 _⟩
 have HN:Hid (gJ B w n (.slice e1 l1 o1) (.slice e2 l2 o2) (.slice e3 l3 o3) (.slice e4 l4 o4) (.slice e5 l5 o5) (.slice e6 l6 o6)/\(∀x∈n.first,gQ x)/\(∀x∈n.nums,gQ x)/\B≤w.heap.size):=⟨hN,hnf,hnn,hB⟩
 have hchart:Calls Tryz.prog 26 #[.string s] W0 fun e w'=>∃S a m p a' m' p' b,e=.returned (.tuple #[.agg #[.string S,.slice a m p,.slice a' m' p'],.bool b])/\Hid (Below W0.heap.size W0 w'/\(b=true->∃c,Cf c/\fY (fun x=>x<w'.heap.size) w' c (.agg #[.string S,.slice a m p,.slice a' m' p']))):=by
  by_cases h:s.size≤1500/\∃l c,Lx.Ok (bs s) l/\cX (sZ s l)=.ok c
  ·obtain ⟨hs,l,c,hok,hch⟩:=h
   refine (Kx.cJ6 hs (hK.up hb0) hok hch).mono fun e w' h=>?_
   rcases h with ⟨hcc,S,a,m,p,a',m',p',he,h⟩|⟨_,he,h⟩
   ·refine ⟨S,a,m,p,a',m',p',true,he,h.out.2,fun _=>⟨c,Eu hok hch hcc,?_⟩⟩
    obtain ⟨p1,p2,p3,p4,p5,p6,p7,p8,p9⟩:=h.out.1
    have kp:bD (fun b=>W0.heap.size<b) (fun b=>b<w'.heap.size) w' w':=fun x _ hl=>⟨hl,rfl⟩
    exact ⟨p1,p2,p3,p4,p5,p6,p7,p8.carry kp,p9.carry kp (aJ.carry kp 6)⟩
   ·exact ⟨_,_,_,_,_,_,_,false,he,h.out,fun h=>absurd h (by simp)⟩
  ·exact (Kx.aI8 (hK.up hb0) fun hs l c h'=>h ⟨hs,l,c,h'⟩).mono fun e w' ⟨he,h⟩=>⟨_,_,_,_,_,_,_,false,he,h.out,fun h=>absurd h (by simp)⟩
 rw[hU1] at hW0
 clear hK hN hnf hnn hB hpl s1 hU1 b1 b2 hb0
 go_enter Tryz.func10,Tryz.ntmps10
 go_upto_region 1 with fail
 rw[show (w.alloc (.cells #[.int .i64 pl,.slice e1 l1 o1,.slice e2 l2 o2,.slice e3 l3 o3,.slice e4 l4 o4,.slice e5 l5 o5,.slice e6 l6 o6] 26)).alloc (.cells #[.int .i64 0,.slice none 0 0,.slice none 0 0,.slice none 0 0,.slice none 0 0,.slice none 0 0,.slice none 0 0] 26)=W0 from hW0.symm]
 clear hW0
 go_upto_region 2 with (go_at_call 26;refine hchart.mono ?_;rintro e w1 ⟨S,a,m,p,a',m',p',b,rfl,h1⟩)
 obtain ⟨V,hV⟩:∃V,V=w1.alloc (.cells #[.string S,.slice a m p,.slice a' m' p'] 52):=⟨_,rfl⟩
 obtain ⟨q6,hq6⟩:∃q6,q6=w1.heap.size:=⟨_,rfl⟩
 have hbV:Below w1.heap.size w1 V:=by rw[hV];exact aD _ _
 have hkV:V.heap[q6]?=some (.cells #[.string S,.slice a m p,.slice a' m' p'] 52 (0,0)):=by rw[hV,hq6];exact bF w1 _
 have HBV:Hid (Below W0.heap.size W0 V/\(b=true->∃c,Cf c/\fY (fun x=>x<V.heap.size) V c (.agg #[.string S,.slice a m p,.slice a' m' p']))):=⟨aW h1.out.1 hbV,fun hb=>by
  obtain ⟨c,hem,p1,p2,p3,p4,p5,p6,p7,p8,p9⟩:=h1.out.2 hb
  have kp:bD (fun b=>b<w1.heap.size) (fun b=>b<V.heap.size) w1 V:=fun x _ hl=>⟨Nat.lt_of_lt_of_le hl hbV.size,hbV.block x hl⟩
  exact ⟨c,hem,p1,p2,p3,p4,p5,p6,p7,p8.carry kp,p9.carry kp (aJ.carry kp 6)⟩⟩
 have y0:=aA hkV 0 (u:=.string S) rfl
 have y1:=aA hkV 1 (u:=.slice a m p) rfl
 have y2:=aA hkV 2 (u:=.slice a' m' p') rfl
 rw[<-hV,<-hq6]
 clear hV hq6 hbV hkV h1 hchart
 go_upto_if 15 with fail
 go_cut [] (fun wx=>Hid (Below W0.heap.size W0 wx))
 case first=>
  cases b with
  | false=>
   go_wp2_with fail
   go_meet
   case rel=>exact HBV.out.1
  | true=>
   obtain ⟨c,hem,hC⟩:=HBV.out.2 rfl
   have hem':Calls Tryz.prog 27 #[.agg #[.string S,.slice a m p,.slice a' m' p']] V fun e w'=>∃pn f1 f2 f3 f4 f5 f6 k1 c1 k2 c2 k3 c3 k4 c4 k5 c5 k6 c6 v,e=.returned (.tuple #[.agg #[.int .i64 pn,.slice f1 k1 c1,.slice f2 k2 c2,.slice f3 k3 c3,.slice f4 k4 c4,.slice f5 k5 c5,.slice f6 k6 c6],v])/\((v=.nilIface/\Hid (Below V.heap.size V w'/\∃N:Nt,pn=N.places/\pK (fun b=>V.heap.size≤b/\b<w'.heap.size) w' N (.slice f1 k1 c1) (.slice f2 k2 c2) (.slice f3 k3 c3) (.slice f4 k4 c4) (.slice f5 k5 c5) (.slice f6 k6 c6)/\uA N/\Nx.dY N=(0,-1)))\/∃t x,v=.iface t x/\Hid (Below V.heap.size V w')):=(bL4 hC (fun _ h=>h) hem).mono fun e w' h=>by
    obtain ⟨hb,⟨_,t,x,rfl⟩|⟨N,vF,vI,vO,vK,vN,vC,h,rfl,hN,hf,hck⟩⟩:=h
    ·exact ⟨_,_,_,_,_,_,_,_,_,_,_,_,_,_,_,_,_,_,_,_,rfl,.inr ⟨t,x,rfl,hb⟩⟩
    ·obtain ⟨f1,_,_,c1,rfl,_⟩:=id hN.f
     obtain ⟨f2,_,_,c2,rfl,_⟩:=id hN.i
     obtain ⟨f3,_,_,c3,rfl,_⟩:=id hN.o
     obtain ⟨f4,_,_,c4,rfl,_⟩:=id hN.k
     obtain ⟨f5,_,_,c5,rfl,_⟩:=id hN.m
     obtain ⟨f6,_,_,c6,rfl,_⟩:=id hN.c
     exact ⟨_,_,_,_,_,_,_,_,_,_,_,_,_,_,_,_,_,_,_,_,rfl,.inl ⟨rfl,hb,N,rfl,hN,hf,hck⟩⟩
   clear hem hC
   go_upto_region 4 with (go_at_call 27;refine hem'.mono ?_;rintro e w2 ⟨pn,f1,f2,f3,f4,f5,f6,k1,c1,k2,c2,k3,c3,k4,c4,k5,c5,k6,c6,v,rfl,h2⟩)
   obtain ⟨V2,hV2⟩:∃V2,V2=w2.alloc (.cells #[.int .i64 pn,.slice f1 k1 c1,.slice f2 k2 c2,.slice f3 k3 c3,.slice f4 k4 c4,.slice f5 k5 c5,.slice f6 k6 c6] 26):=⟨_,rfl⟩
   obtain ⟨q8,hq8⟩:∃q8,q8=w2.heap.size:=⟨_,rfl⟩
   have hb2:Below w2.heap.size w2 V2:=by rw[hV2];exact aD _ _
   have hk2:V2.heap[q8]?=some (.cells #[.int .i64 pn,.slice f1 k1 c1,.slice f2 k2 c2,.slice f3 k3 c3,.slice f4 k4 c4,.slice f5 k5 c5,.slice f6 k6 c6] 26 (0,0)):=by rw[hV2,hq8];exact bF w2 _
   rw[<-hV2,<-hq8]
   rcases h2 with ⟨rfl,h2⟩|⟨tt,tv,rfl,h2⟩
   ·obtain ⟨hbe,N,hpn,hNA,hNf,hNc⟩:=h2.out
    have hB2:Below W0.heap.size W0 V2:=aW (aW HBV.out.1 hbe) hb2
    have u1:=aR hB2 HB.out.2.2.2
    have HF:Hid (Below w.heap.size w V2/\V2.heap[w.heap.size+1]?=some (.cells ZN 26 (0,0))/\pK (fun b=>V.heap.size≤b/\b<V2.heap.size) V2 N (.slice f1 k1 c1) (.slice f2 k2 c2) (.slice f3 k3 c3) (.slice f4 k4 c4) (.slice f5 k5 c5) (.slice f6 k6 c6)/\uA N/\Nx.dY N=(0,-1)/\w.heap.size+2≤V.heap.size/\pn=N.places):=⟨aW HB.out.1 hB2,u1,hNA.carry fun b hb hl=>⟨⟨hb.1,Nat.lt_of_lt_of_le hb.2 hb2.size⟩,hb2.block b hl⟩,hNf,hNc,by have:=HBV.out.1.size;have:=HB.out.2.1;omega,hpn⟩
    obtain ⟨r0,r1,r2,r3,r4,r5,r6⟩:=eG u1
    have rf:∀o,V2.frozen? ⟨w.heap.size+1,o,none⟩=false:=fun o=>aH u1 o
    obtain ⟨p0,p1,p2,p3,p4,p5,p6⟩:=eG hk2
    clear hV2 hq8 hb2 hk2 hB2 u1 h2 hem' y0 y1 y2 hbe hpn hNA hNf hNc
    go_wp2_with fail
    obtain ⟨X,hX⟩:∃X,X=((((((V2.setCell ⟨w.heap.size+1,0,none⟩ (.int .i64 pn)).setCell ⟨w.heap.size+1,1,none⟩ (.slice f1 k1 c1)).setCell ⟨w.heap.size+1,2,none⟩ (.slice f2 k2 c2)).setCell ⟨w.heap.size+1,3,none⟩ (.slice f3 k3 c3)).setCell ⟨w.heap.size+1,4,none⟩ (.slice f4 k4 c4)).setCell ⟨w.heap.size+1,5,none⟩ (.slice f5 k5 c5)).setCell ⟨w.heap.size+1,6,none⟩ (.slice f6 k6 c6):=⟨_,rfl⟩
    rw[<-hX]
    obtain ⟨z0,z1,z2,z3⟩:=bC2 HF.out.2.1 hX
    clear hX
    refine bodyPost_ret (lQ _ _ (w.heap.size+1) _ _ rfl rfl rfl z0) rfl ?_
    refine ⟨N,f1,f2,f3,f4,f5,f6,k1,c1,k2,c2,k3,c3,k4,c4,k5,c5,k6,c6,true,by rw[<-HF.out.2.2.2.2.2.2];rfl,z2 _ _ HF.out.1 (by omega),fun _=>⟨HF.out.2.2.1.carry (w':=X) fun b hb hl=>⟨.inr ⟨?_,by rw[z3];exact hb.2⟩,z1 b ?_⟩,kT HF.out.2.2.2.2.1,HF.out.2.2.2.2.1,HF.out.2.2.2.1.nf,HF.out.2.2.2.1.nn⟩⟩
    ·have:=HF.out.2.2.2.2.2.1;omega
    ·have:=HF.out.2.2.2.2.2.1;omega
   ·have HF:Hid (Below W0.heap.size W0 V2):=aW (aW HBV.out.1 h2.out) hb2
    clear hV2 hq8 hb2 hk2 h2 hem' y0 y1 y2
    go_wp2_with fail
    go_meet
    case rel=>exact HF.out
 case rest=>
  have HT:Hid (Below w.heap.size w wc/\Below W0.heap.size W0 wc):=⟨aW HB.out.1 hcut.out,hcut.out⟩
  have HKK:Hid (wc.heap[w.heap.size]?=some (.cells #[.int .i64 pl,.slice e1 l1 o1,.slice e2 l2 o2,.slice e3 l3 o3,.slice e4 l4 o4,.slice e5 l5 o5,.slice e6 l6 o6] 26 (0,0))/\wc.heap[w.heap.size+1]?=some (.cells ZN 26 (0,0))):=⟨aR hcut.out HB.out.2.2.1,aR hcut.out HB.out.2.2.2⟩
  obtain ⟨p0,p1,p2,p3,p4,p5,p6⟩:=eG HKK.out.1
  have hheld:=Nx.bJ2 _ n wc.drew _ _ _ _ _ _ (aL9 HN.out.1 HN.out.2.2.2 (aW HT.out.1 ((Below.refl _ wc).drew)))
  have hck:=fun W (hbW:Below wc.heap.size wc W) (hs:Nx.eU n)=>Nx.iM W.heap.size n W _ _ _ _ _ _ (aL9 HN.out.1 HN.out.2.2.2 (aW HT.out.1 hbW)) (Nat.le_refl _) hs
  rw[<-HPL.out] at hheld hck
  have HF:Hid (∀(b:Bool) w8,Below wc.heap.size wc w8->(b=true->Nx.eU n/\Nx.dY n=(0,-1))->∀X,X=((((((w8.setCell ⟨w.heap.size+1,0,none⟩ (.int .i64 pl)).setCell ⟨w.heap.size+1,1,none⟩ (.slice e1 l1 o1)).setCell ⟨w.heap.size+1,2,none⟩ (.slice e2 l2 o2)).setCell ⟨w.heap.size+1,3,none⟩ (.slice e3 l3 o3)).setCell ⟨w.heap.size+1,4,none⟩ (.slice e4 l4 o4)).setCell ⟨w.heap.size+1,5,none⟩ (.slice e5 l5 o5)).setCell ⟨w.heap.size+1,6,none⟩ (.slice e6 l6 o6)->X.heap[w.heap.size+1]?=some (.cells #[.int .i64 pl,.slice e1 l1 o1,.slice e2 l2 o2,.slice e3 l3 o3,.slice e4 l4 o4,.slice e5 l5 o5,.slice e6 l6 o6] 26 (0,0))/\cN6 B w (.returned (.tuple #[.agg #[.int .i64 pl,.slice e1 l1 o1,.slice e2 l2 o2,.slice e3 l3 o3,.slice e4 l4 o4,.slice e5 l5 o5,.slice e6 l6 o6],.bool b])) X):=fun b w8 h8 hb X hX=>by
   obtain ⟨z0,z1,z2,z3⟩:=bC2 (aR h8 HKK.out.2) hX
   have hb9:Below w.heap.size w X:=z2 _ _ (aW HT.out.1 h8) (by omega)
   exact ⟨z0,n,e1,e2,e3,e4,e5,e6,l1,o1,l2,o2,l3,o3,l4,o4,l5,o5,l6,o6,b,by rw[<-HPL.out],hb9,fun h=>⟨(bT5 HN.out.1).carry fun b hb hl=>⟨.inl hb,hb9.block b hl⟩,(hb h).1,(hb h).2,HN.out.2.1,HN.out.2.2.1⟩⟩
  have HZ:Hid (∀w8,Below wc.heap.size wc w8->w8.heap[w.heap.size]?=some (.cells #[.int .i64 pl,.slice e1 l1 o1,.slice e2 l2 o2,.slice e3 l3 o3,.slice e4 l4 o4,.slice e5 l5 o5,.slice e6 l6 o6] 26 (0,0))/\w8.heap[w.heap.size+1]?=some (.cells #[.int .i64 0,.slice none 0 0,.slice none 0 0,.slice none 0 0,.slice none 0 0,.slice none 0 0,.slice none 0 0] 26 (0,0))/\∀o,w8.frozen? ⟨w.heap.size+1,o,none⟩=false):=fun w8 h=>⟨aR h HKK.out.1,aR h HKK.out.2,fun o=>aH (aR h HKK.out.2) o⟩
  clear hcut
  go_upto_region 6 with fail
  by_cases hh:aY8 n
  ·have hheld':Calls Tryz.prog 28 #[.agg #[.int .i64 pl,.slice e1 l1 o1,.slice e2 l2 o2,.slice e3 l3 o3,.slice e4 l4 o4,.slice e5 l5 o5,.slice e6 l6 o6]] wc.drew fun e w'=>e=.returned (.bool true)/\Hid (Below wc.heap.size wc w'):=hheld.mono fun e w' ⟨b,he,hb,hbl⟩=>by
    rw[hb.2 hh] at he;exact ⟨he,aW ((Below.refl _ wc).drew) hbl⟩
   have HHS:Hid (Nx.eU n):=hh.small
   clear hheld
   by_cases hc:Nx.dY n=(0,-1)
   ·have HCK:Hid (Nx.dY n=(0,-1)):=hc
    have hck':∀W,Below wc.heap.size wc W->Calls Tryz.prog 29 #[.agg #[.int .i64 pl,.slice e1 l1 o1,.slice e2 l2 o2,.slice e3 l3 o3,.slice e4 l4 o4,.slice e5 l5 o5,.slice e6 l6 o6]] W fun e w'=>e=.returned .nilIface/\Hid (Below wc.heap.size wc w'):=fun W hbW=>(hck W hbW HHS.out).mono fun e w' h=>by
     obtain ⟨v,rfl,he,hb⟩:=h
     rw[HCK.out] at he
     rcases he with ⟨_,_,rfl⟩|⟨c1,_,_⟩|⟨c1,_⟩
     ·exact ⟨rfl,aW hbW hb⟩
     ·exact absurd rfl c1
     ·exact absurd rfl c1
    clear hh hc hck
    go_region_law (first
     | (go_simp;go_at_call 28;refine hheld'.mono ?_;rintro e w7 ⟨rfl,h7⟩;obtain ⟨s0,s1,s2,s3,s4,s5,s6⟩:=eG (HZ.out w7 h7.out).1;obtain ⟨t0,t1,t2,t3,t4,t5,t6⟩:=eG (HZ.out w7 h7.out).2.1;have tf:=(HZ.out w7 h7.out).2.2;have hc7:=hck' w7 h7.out)
     | (go_simp;go_at_call 29;refine hc7.mono ?_;rintro e w8 ⟨rfl,h8⟩;obtain ⟨s0,s1,s2,s3,s4,s5,s6⟩:=eG (HZ.out w8 h8.out).1;obtain ⟨t0,t1,t2,t3,t4,t5,t6⟩:=eG (HZ.out w8 h8.out).2.1;have tf:=(HZ.out w8 h8.out).2.2))
    all_goals
     go_wp2_with fail
     obtain ⟨z0,hfin⟩:=HF.out true w8 h8.out (fun _=>⟨HHS.out,HCK.out⟩) _ rfl
     exact bodyPost_ret (lQ _ _ (w.heap.size+1) _ _ rfl rfl rfl z0) rfl hfin
   ·have HCK:Hid (Nx.dY n≠(0,-1)):=hc
    have hck':∀W,Below wc.heap.size wc W->Calls Tryz.prog 29 #[.agg #[.int .i64 pl,.slice e1 l1 o1,.slice e2 l2 o2,.slice e3 l3 o3,.slice e4 l4 o4,.slice e5 l5 o5,.slice e6 l6 o6]] W fun e w'=>∃t v,e=.returned (.iface t v)/\Hid (Below wc.heap.size wc w'):=fun W hbW=>(hck W hbW HHS.out).mono fun e w' h=>by
     obtain ⟨v,rfl,he,hb⟩:=h
     rcases he with ⟨c1,c2,rfl⟩|⟨_,_,rfl⟩|⟨_,g,q,_,_,rfl,_⟩
     ·exact absurd (Prod.ext c1 c2) HCK.out
     ·exact ⟨_,_,rfl,aW hbW hb⟩
     ·exact ⟨_,_,rfl,aW hbW hb⟩
    clear hh hc hck
    go_region_law (first
     | (go_simp;go_at_call 28;refine hheld'.mono ?_;rintro e w7 ⟨rfl,h7⟩;obtain ⟨s0,s1,s2,s3,s4,s5,s6⟩:=eG (HZ.out w7 h7.out).1;obtain ⟨t0,t1,t2,t3,t4,t5,t6⟩:=eG (HZ.out w7 h7.out).2.1;have tf:=(HZ.out w7 h7.out).2.2;have hc7:=hck' w7 h7.out)
     | (go_simp;go_at_call 29;refine hc7.mono ?_;rintro e w8 ⟨tt,tv,rfl,h8⟩;obtain ⟨s0,s1,s2,s3,s4,s5,s6⟩:=eG (HZ.out w8 h8.out).1;obtain ⟨t0,t1,t2,t3,t4,t5,t6⟩:=eG (HZ.out w8 h8.out).2.1;have tf:=(HZ.out w8 h8.out).2.2))
    all_goals
     go_wp2_with fail
     obtain ⟨z0,hfin⟩:=HF.out false w8 h8.out (fun h=>absurd h (by simp)) _ rfl
     exact bodyPost_ret (lQ _ _ (w.heap.size+1) _ _ rfl rfl rfl z0) rfl hfin
  ·have hheld':Calls Tryz.prog 28 #[.agg #[.int .i64 pl,.slice e1 l1 o1,.slice e2 l2 o2,.slice e3 l3 o3,.slice e4 l4 o4,.slice e5 l5 o5,.slice e6 l6 o6]] wc.drew fun e w'=>e=.returned (.bool false)/\Hid (Below wc.heap.size wc w'):=hheld.mono fun e w' ⟨b,he,hb,hbl⟩=>by
    have hbf:b=false:=by cases b with
     | false=>rfl
     | true=>exact absurd (hb.1 rfl) hh
    rw[hbf] at he;exact ⟨he,aW ((Below.refl _ wc).drew) hbl⟩
   clear hheld hh hck
   go_region_law ((go_simp;go_at_call 28;refine hheld'.mono ?_;rintro e w7 ⟨rfl,h7⟩;obtain ⟨s0,s1,s2,s3,s4,s5,s6⟩:=eG (HZ.out w7 h7.out).1;obtain ⟨t0,t1,t2,t3,t4,t5,t6⟩:=eG (HZ.out w7 h7.out).2.1;have tf:=(HZ.out w7 h7.out).2.2))
   all_goals
    go_wp2_with fail
    obtain ⟨z0,hfin⟩:=HF.out false w7 h7.out (fun h=>absurd h (by simp)) _ rfl
    exact bodyPost_ret (lQ _ _ (w.heap.size+1) _ _ rfl rfl rfl z0) rfl hfin
end
end Ew
end
section
namespace Ix
open Nx
def wv (z:Int):Nat:=if z<0 then (2*(-z)-1).toNat else (2*z).toNat
def uv (u:Nat):Int:=if u % 2=1 then -((u / 2:Nat):Int)-1 else ((u / 2:Nat):Int)
theorem cI0 (z:Int):uv (wv z)=z:=by
 unfold uv wv
 split<;>split<;>omega
theorem aZ4 {z:Int}(h:-9223372036854775808≤z) (h':z≤9223372036854775807):wv z<18446744073709551616:=by
 unfold wv
 split<;>omega
theorem zX {u:Nat}(h:u<18446744073709551616):-9223372036854775808≤uv u/\uv u≤9223372036854775807:=by
 unfold uv
 split<;>omega
def pb (u:Nat):List UInt8:=if u<128 then [UInt8.ofNat u] else UInt8.ofNat (u % 128+128)::pb (u / 128)
termination_by u
decreasing_by omega
theorem mK {u:Nat}(h:u<128):pb u=[UInt8.ofNat u]:=by rw[pb,if_pos h]
theorem rH {u:Nat}(h:¬u<128):pb u=UInt8.ofNat (u % 128+128)::pb (u / 128):=by rw[pb,if_neg h]
theorem aE9 (u:Nat):0<(pb u).length:=by
 rw[pb];split<;>simp
theorem bE0:∀(k u:Nat),u<128 ^ (k+1)->(pb u).length≤k+1
 | 0,u,h=>by rw[mK (by simpa using h)];simp
 | k+1,u,h=>by
  by_cases h0:u<128
  ·rw[mK h0];simp
  ·rw[rH h0]
   have:u / 128<128 ^ (k+1):=by
    apply Nat.div_lt_of_lt_mul
    rw[Nat.pow_succ] at h
    omega
   have:=bE0 k (u / 128) this
   simp only[List.length_cons]
   omega
theorem cB9 {u:Nat}(h:u<18446744073709551616):(pb u).length≤10:=bE0 9 u (by omega)
def P8 (z:Int):List UInt8:=pb (wv z)
theorem bN6 (z:Int):0<(P8 z).length:=aE9 _
theorem jN {z:Int}(h:-9223372036854775808≤z) (h':z≤9223372036854775807):(P8 z).length≤10:=cB9 (aZ4 h h')
def pl (l:List Int):List UInt8:=P8 l.length++l.flatMap P8
def dJ (c:Int):Nat:=if c=1\/c=2\/c=4\/c=5 then 1 else if 6≤c/\c≤16 then 2 else if c=17 then 3 else 0
def eK (s:Sp):List Int:=s.code::s.dst::[s.a,s.b,s.c].take (dJ s.code)
theorem tD (s:Sp) (h:s.code≠1):asks s=[s.a,s.b,s.c].take (dJ s.code):=by
 unfold asks dJ
 by_cases h1:s.code=2\/s.code=4\/s.code=5
 ·rw[if_pos h1,if_pos (.inr h1)];rfl
 ·rw[if_neg h1,if_neg (show ¬(s.code=1\/s.code=2\/s.code=4\/s.code=5) by omega)]
  split
  ·rfl
  ·split<;>rfl
theorem bN2 (s:Sp) (h:s.code=1):asks s=[]:=by
 unfold asks
 rw[if_neg (by omega),if_neg (by omega),if_neg (by omega)]
def ps (s:Sp):List UInt8:=(eK s).flatMap P8
def cD (n:Nt):List UInt8:=[67,76,80,49]++P8 n.places++pl n.first++pl n.ins++pl n.outs++pl n.keeps++pl n.nums++P8 n.code.length++n.code.flatMap ps
def vb (s:List UInt8):Nat->Nat
 | 0=>0
 | i+1=>(vb s i+((s.getD i 0).toNat % 128)*2 ^ (7*i)) % 18446744073709551616
theorem bA8 (s:List UInt8):∀i,vb s i<18446744073709551616
 | 0=>by unfold vb;decide
 | i+1=>Nat.mod_lt _ (by decide)
def Ai (s:List UInt8):Nat->Nat
 | 0=>0
 | i+1=>Ai s i+((s.getD i 0).toNat % 128)*2 ^ (7*i)
theorem bA6 (s:List UInt8):∀i,Ai s i<2 ^ (7*i)
 | 0=>by simp[Ai]
 | i+1=>by
  have h1:=bA6 s i
  have h2:(s.getD i 0).toNat % 128<128:=Nat.mod_lt _ (by decide)
  have h3:((s.getD i 0).toNat % 128)*2 ^ (7*i)≤127*2 ^ (7*i):=Nat.mul_le_mul_right _ (by omega)
  have h4:2 ^ (7*(i+1))=128*2 ^ (7*i):=by rw[show 7*(i+1)=7*i+7 by omega,Nat.pow_add,Nat.mul_comm]
  rw[Ai,h4];omega
theorem aC3 (s:List UInt8):∀i,vb s i=Ai s i % 18446744073709551616
 | 0=>rfl
 | i+1=>by rw[vb,Ai,aC3 s i,Nat.mod_add_mod]
theorem bA7 (s:List UInt8) (i:Nat) (h:i≤9):vb s i=Ai s i/\vb s i<2 ^ (7*i):=by
 have h1:=bA6 s i
 have h2:2 ^ (7*i)≤2 ^ 63:=Nat.pow_le_pow_right (by decide) (by omega)
 rw[aC3,Nat.mod_eq_of_lt (by omega)]
 exact ⟨rfl,h1⟩
def Aj (s:List UInt8):Nat->Nat->Option (Int×List UInt8)
 | 0,_=>none
 | f+1,i=>if i<s.length then (if 128≤(s.getD i 0).toNat then Aj s f (i+1) else if P8 (uv (vb s (i+1)))=s.take (i+1) then some (uv (vb s (i+1)),s.drop (i+1)) else none) else none
def tk (s:List UInt8):Option (Int×List UInt8):=Aj s 10 0
theorem bQ0 (s:List UInt8):∀(f i:Nat),s.length≤i->Aj s f i=none
 | 0,_,_=>rfl
 | f+1,i,h=>by rw[Aj,if_neg (by omega)]
theorem bZ5 (s:List UInt8):∀(f i:Nat) (z:Int) (r:List UInt8),Aj s f i=some (z,r)->s=P8 z++r/\-9223372036854775808≤z/\z≤9223372036854775807/\(P8 z).length≤s.length
 | 0,_,_,_,h=>by cases h
 | f+1,i,z,r,h=>by
  rw[Aj] at h
  split at h
  ·split at h
   ·exact bZ5 s f (i+1) z r h
   ·split at h
    ·rename_i he
     injection h with h
     injection h with h1 h2
     subst h1;subst h2
     refine ⟨by rw[he,List.take_append_drop],(zX (bA8 s _)).1,(zX (bA8 s _)).2,?_⟩
     rw[he,List.length_take]
     omega
    ·cases h
  ·cases h
theorem uK {s r:List UInt8}{z:Int}(h:tk s=some (z,r)):s=P8 z++r/\-9223372036854775808≤z/\z≤9223372036854775807:=by
 obtain ⟨h1,h2,h3,_⟩:=bZ5 s 10 0 z r h
 exact ⟨h1,h2,h3⟩
theorem mG {s r:List UInt8}{z:Int}(h:tk s=some (z,r)):r.length+1≤s.length:=by
 have h1:=(uK h).1
 have:=bN6 z
 rw[h1,List.length_append]
 omega
def sm (s:List UInt8):Option (Int×List UInt8):=
 match tk s with
 | some (z,r)=>if 0≤z/\z≤4000 then some (z,r) else none
 | none=>none
theorem cB0:sm []=none:=rfl
theorem oQ {s r:List UInt8}{z:Int}(h:sm s=some (z,r)):tk s=some (z,r)/\0≤z/\z≤4000:=by
 unfold sm at h
 split at h
 ·rename_i z' r' e
  split at h
  ·rename_i hz
   injection h with h
   injection h with h1 h2
   subst h1;subst h2
   exact ⟨e,hz⟩
  ·cases h
 ·cases h
theorem bY2 {s r:List UInt8}{z:Int}(h:tk s=some (z,r)) (h0:0≤z) (h1:z≤4000):sm s=some (z,r):=by
 unfold sm;rw[h];simp only[if_pos (And.intro h0 h1)]
theorem aD6 {s:List UInt8}(h:tk s=none):sm s=none:=by unfold sm;rw[h]
theorem Q4 {s r:List UInt8}{z:Int}(h:tk s=some (z,r)) (hz:¬(0≤z/\z≤4000)):sm s=none:=by unfold sm;rw[h];simp only[if_neg hz]
section
variable {α:Type}(f:List UInt8->Option (α×List UInt8))
def mA (s:List UInt8):Nat->Option (List α×List UInt8)
 | 0=>some ([],s)
 | k+1=>match mA s k with
  | some (l,r)=>match f r with
   | some (z,r')=>some (l++[z],r')
   | none=>none
  | none=>none
theorem qT {s:List UInt8}{k:Nat}(h:mA f s k=none):mA f s (k+1)=none:=by rw[mA,h]
theorem bZ4 {s:List UInt8}{k m:Nat}(h:mA f s k=none) (hm:k≤m):mA f s m=none:=by
 induction m with
 | zero=>obtain rfl:k=0:=by omega
         exact h
 | succ m ih=>
  rcases Nat.lt_or_ge m k with hk|hk
  ·obtain rfl:k=m+1:=by omega
   exact h
  ·exact qT f (ih hk)
theorem vB {s:List UInt8}{k:Nat}{l:List α}{r r':List UInt8}{z:α}(h:mA f s k=some (l,r)) (hz:f r=some (z,r')):mA f s (k+1)=some (l++[z],r'):=by
 rw[mA,h];simp only[hz]
theorem vD {s:List UInt8}{k:Nat}{l:List α}{r:List UInt8}(h:mA f s k=some (l,r)) (hz:f r=none):mA f s (k+1)=none:=by
 rw[mA,h];simp only[hz]
theorem oP {s:List UInt8}:∀{k:Nat}{l:List α}{r:List UInt8},mA f s k=some (l,r)->l.length=k
 | 0,l,r,h=>by rw[mA] at h;injection h with h;injection h with h1 _;subst h1;rfl
 | k+1,l,r,h=>by
  rw[mA] at h
  split at h
  ·rename_i l' r' e
   split at h
   ·rename_i z r'' e2
    injection h with h;injection h with h1 _
    subst h1
    have:=oP e
    simp[this]
   ·cases h
  ·cases h
theorem qU {s:List UInt8}(hf:∀s z r,f s=some (z,r)->r.length+1≤s.length):∀{k:Nat}{l:List α}{r:List UInt8},mA f s k=some (l,r)->r.length+k≤s.length
 | 0,l,r,h=>by rw[mA] at h;injection h with h;injection h with _ h1;subst h1;omega
 | k+1,l,r,h=>by
  rw[mA] at h
  split at h
  ·rename_i l' r' e
   split at h
   ·rename_i z r'' e2
    injection h with h;injection h with _ h1
    subst h1
    have h2:=qU hf e
    have h3:=hf _ _ _ e2
    omega
   ·cases h
  ·cases h
theorem uL {s:List UInt8}{p:α->Prop}(hf:∀s z r,f s=some (z,r)->p z):∀{k:Nat}{l:List α}{r:List UInt8},mA f s k=some (l,r)->∀z∈l,p z
 | 0,l,r,h=>by rw[mA] at h;injection h with h;injection h with h1 _;subst h1;simp
 | k+1,l,r,h=>by
  rw[mA] at h
  split at h
  ·rename_i l' r' e
   split at h
   ·rename_i z r'' e2
    injection h with h;injection h with h1 _
    subst h1
    intro x hx
    rcases List.mem_append.1 hx with hx|hx
    ·exact uL hf e x hx
    ·rw[List.mem_singleton.1 hx];exact hf _ _ _ e2
   ·cases h
  ·cases h
theorem qS {s:List UInt8}{g:α->List UInt8}(hf:∀s z r,f s=some (z,r)->s=g z++r):∀{k:Nat}{l:List α}{r:List UInt8},mA f s k=some (l,r)->s=l.flatMap g++r
 | 0,l,r,h=>by rw[mA] at h;injection h with h;injection h with h1 h2;subst h1;subst h2;rfl
 | k+1,l,r,h=>by
  rw[mA] at h
  split at h
  ·rename_i l' r' e
   split at h
   ·rename_i z r'' e2
    injection h with h;injection h with h1 h2
    subst h1;subst h2
    rw[qS hf e,hf _ _ _ e2]
    simp
   ·cases h
  ·cases h
end
def lM (f:List UInt8->Option (Int×List UInt8)) (s:List UInt8):Option (List Int×List UInt8):=
 match sm s with
 | some (c,r)=>mA f r c.toNat
 | none=>none
def tO (s:List UInt8):Option (Sp×List UInt8):=
 match sm s with
 | some (c,r)=>match mA sm r (1+dJ c) with
  | some (l,r')=>some (⟨c,l.getD 0 0,l.getD 1 0,l.getD 2 0,l.getD 3 0⟩,r')
  | none=>none
 | none=>none
def uE (s:List UInt8):Option (List Sp×List UInt8):=
 match sm s with
 | some (c,r)=>mA tO r c.toNat
 | none=>none
def vZ (s:List UInt8):Option (Nt×List UInt8):=
 match sm s with
 | none=>none
 | some (p,s1)=>match lM tk s1 with
  | none=>none
  | some (fi,s2)=>match lM sm s2 with
   | none=>none
   | some (i,s3)=>match lM sm s3 with
    | none=>none
    | some (o,s4)=>match lM sm s4 with
     | none=>none
     | some (k,s5)=>match lM tk s5 with
      | none=>none
      | some (m,s6)=>match uE s6 with
       | none=>none
       | some (c,s7)=>some (⟨p,fi,i,o,k,m,c⟩,s7)
def Bf:Nt:=⟨0,[],[],[],[],[],[]⟩
def nB (s:List UInt8):Option Nt:=
 if [67,76,80,49].isPrefixOf s=true then
  match vZ (s.drop 4) with
  | some (n,r)=>if r=[] then some n else none
  | none=>none
 else none
def dS (s:List UInt8):Nt×(Nat×Int):=
 match nB s with
 | some n=>if dY n=(0,-1) then (n,(0,-1)) else (Bf,dY n)
 | none=>(Bf,(3,-1))
theorem nY {f:List UInt8->Option (Int×List UInt8)}(hf:∀s z r,f s=some (z,r)->r.length+1≤s.length) {s r:List UInt8}{l:List Int}(h:lM f s=some (l,r)):r.length+l.length+1≤s.length/\l.length≤4000:=by
 unfold lM at h
 split at h
 ·rename_i c r' e
  obtain ⟨e1,e2,e3⟩:=oQ e
  have h1:=qU f hf h
  have h2:=oP f h
  have h3:=mG e1
  omega
 ·cases h
theorem oR (s:List UInt8) (z:Int) (r:List UInt8) (h:sm s=some (z,r)):r.length+1≤s.length:=mG (oQ h).1
theorem bD6 (s:List UInt8) (x:Sp) (r:List UInt8) (h:tO s=some (x,r)):r.length+1≤s.length:=by
 unfold tO at h
 split at h
 ·rename_i c r' e
  split at h
  ·rename_i l r'' e2
   injection h with h;injection h with _ h1
   subst h1
   have h1:=qU sm oR e2
   have h2:=oR _ _ _ e
   omega
  ·cases h
 ·cases h
theorem aT7 {s r:List UInt8}{l:List Sp}(h:uE s=some (l,r)):r.length+l.length+1≤s.length/\l.length≤4000:=by
 unfold uE at h
 split at h
 ·rename_i c r' e
  obtain ⟨e1,e2,e3⟩:=oQ e
  have h1:=qU tO bD6 h
  have h2:=oP tO h
  have h3:=mG e1
  omega
 ·cases h
theorem yS {s r:List UInt8}{n:Nt}(h:vZ s=some (n,r)):∃s1 s2 s3 s4 s5 s6,sm s=some (n.places,s1)/\lM tk s1=some (n.first,s2)/\lM sm s2=some (n.ins,s3)/\lM sm s3=some (n.outs,s4)/\lM sm s4=some (n.keeps,s5)/\lM tk s5=some (n.nums,s6)/\uE s6=some (n.code,r):=by
 unfold vZ at h
 split at h
 ·cases h
 rename_i p s1 e1
 split at h
 ·cases h
 rename_i fi s2 e2
 split at h
 ·cases h
 rename_i i s3 e3
 split at h
 ·cases h
 rename_i o s4 e4
 split at h
 ·cases h
 rename_i k s5 e5
 split at h
 ·cases h
 rename_i m s6 e6
 split at h
 ·cases h
 rename_i c s7 e7
 injection h with h
 injection h with h1 h2
 subst h1;subst h2
 exact ⟨s1,s2,s3,s4,s5,s6,e1,e2,e3,e4,e5,e6,e7⟩
theorem cB4 {s s1 s2 s3 s4 s5 s6 s7:List UInt8}{p:Int}{fi i o k m:List Int}{c:List Sp}(e1:sm s=some (p,s1)) (e2:lM tk s1=some (fi,s2)) (e3:lM sm s2=some (i,s3)) (e4:lM sm s3=some (o,s4)) (e5:lM sm s4=some (k,s5)) (e6:lM tk s5=some (m,s6)) (e7:uE s6=some (c,s7)):vZ s=some (⟨p,fi,i,o,k,m,c⟩,s7):=by
 unfold vZ
 simp only[e1,e2,e3,e4,e5,e6,e7]
theorem bR5 {s r:List UInt8}{n:Nt}(h:vZ s=some (n,r)):n.first.length+n.ins.length+n.outs.length+n.keeps.length+n.nums.length+n.code.length≤s.length/\n.places≤4000/\n.code.length≤4000/\n.nums.length≤4000:=by
 obtain ⟨s1,s2,s3,s4,s5,s6,e1,e2,e3,e4,e5,e6,e7⟩:=yS h
 have t1:=oR _ _ _ e1
 have t0:=(oQ e1).2.2
 have t2:=nY (fun _ _ _=>mG) e2
 have t3:=nY oR e3
 have t4:=nY oR e4
 have t5:=nY oR e5
 have t6:=nY (fun _ _ _=>mG) e6
 have t7:=aT7 e7
 omega
end Ix
end
section
open Go.RowKit
namespace Ix
open Nx
theorem aK4 (z:Int) (h:-9223372036854775808≤z) (h':z≤9223372036854775807):bits .xor .i64 (-1) z=-z-1:=by
 show IntKind.i64.wrap ((BitVec.ofInt 64 (-1) ^^^ BitVec.ofInt 64 z).toNat:Int)=_
 have e:BitVec.ofInt 64 (-1) ^^^ BitVec.ofInt 64 z= ~~~ (BitVec.ofInt 64 z):=by
  rw[show BitVec.ofInt 64 (-1)=BitVec.allOnes 64 by decide]
  exact BitVec.allOnes_xor
 rw[e,BitVec.toNat_not,BitVec.toNat_ofInt]
 simp only[IntKind.wrap,IntKind.bits,IntKind.signed]
 simp
 omega
theorem cJ2 (u:Nat):bits .or .u8 ((u % 256:Nat):Int) 128=((u % 128+128:Nat):Int):=by
 show IntKind.u8.wrap ((BitVec.ofInt 8 ((u % 256:Nat):Int) ||| BitVec.ofInt 8 128).toNat:Int)=_
 have h:∀k:Fin 256,(BitVec.ofInt 8 ((k.val:Nat):Int) ||| BitVec.ofInt 8 128).toNat=k.val % 128+128:=by decide +kernel
 have hk:=h ⟨u % 256,Nat.mod_lt _ (by decide)⟩
 simp only at hk
 rw[hk]
 simp only[IntKind.wrap,IntKind.bits,IntKind.signed]
 simp
 omega
theorem aO3 (z:Int) (w:World) (h:-9223372036854775808≤z) (h':z≤9223372036854775807) :
    Calls Tryz.prog 87 #[.int .i64 z] w fun e w'=>e=.returned (.int .u64 (wv z))/\w'=w:=by
 by_cases hz:z<0
 ·have e:IntKind.u64.wrap (IntKind.u64.wrap (2*IntKind.u64.wrap (bits .xor .i64 (-1) z))+1)=(wv z:Int):=by
   rw[aK4 z h h',IntKind.wrap_u64,IntKind.wrap_u64,IntKind.wrap_u64]
   unfold wv
   rw[if_pos hz]
   omega
  go_enter Tryz.func87,Tryz.ntmps87
  go_wp2
  go_ret
  exact ⟨rfl,rfl⟩
 ·have e:2*z=(wv z:Int):=by
   unfold wv
   rw[if_neg hz]
   omega
  go_enter Tryz.func87,Tryz.ntmps87
  go_wp2
  go_ret
  exact ⟨rfl,rfl⟩
theorem K0 (u:Nat) (w:World) (h:u<18446744073709551616) :
    Calls Tryz.prog 181 #[.int .u64 u] w fun e w'=>e=.returned (.int .i64 (uv u))/\w'=w:=by
 by_cases hz:u % 2=1
 ·have e:bits .xor .i64 (-1) ((u:Int) / 2)=uv u:=by
   rw[aK4 _ (by omega) (by omega)]
   unfold uv
   rw[if_pos hz]
   omega
  go_enter Tryz.func181,Tryz.ntmps181
  go_wp2
  all_goals (first|(exfalso;omega)|skip)
  go_ret
  exact ⟨rfl,rfl⟩
 ·have e:((u:Int) / 2)=uv u:=by
   unfold uv
   rw[if_neg hz]
   omega
  go_enter Tryz.func181,Tryz.ntmps181
  go_wp2
  all_goals (first|(exfalso;omega)|skip)
  go_ret
  exact ⟨rfl,rfl⟩
def bc (l:List UInt8):List Value:=l.map fun b=>Value.int .u8 b.toNat
theorem bN0 (l:List UInt8):(bc l).length=l.length:=by simp[bc]
theorem cG7 (l m:List UInt8):bc (l++m)=bc l++bc m:=by simp[bc]
def I9 (w:World) (B:Nat) (v:Value) (l:List UInt8):Prop:=
 w.ownsRow B 5 1 v l.length (bc l)\/∃g,v=.slice (some ⟨g,0,none⟩) l.length l.length/\B≤g/\g<w.heap.size/\∀j u,(bc l)[j]?=some u->w.cell? ⟨g,j,none⟩=some u
theorem cG6 (l:List UInt8):∀u∈bc l,u.oneCell'=true:=fun u hu=>by
 obtain ⟨x,_,rfl⟩:=List.mem_map.1 hu
 rfl
theorem Tryz.infoU8:(Tryz.prog.info? 5).map (fun i=>(i.zero,i.size,i.bytes))=some (some (.int .u8 0),1,1):=by kernel_rfl
theorem bC6 {w:World}{B:Nat}{v:Value}{l:List UInt8}(h:I9 w B v l) (ty:TypeId) (ad:Addr) (c:Nat) (x:UInt8) (hx:w.cell? (ad.add 0)=some (.int .u8 x.toNat)) (hl:l.length+1≤140737488355328) (hB:B≤w.heap.size) :
    ∃v' w',(Builtin.append_ #[99,99] ty #[v,.slice (some ad) 1 c]).run Tryz.prog w=.ok v' w'/\w'.ownsRow B 5 1 v' (l++[x]).length (bc (l++[x]))/\w.grownBy w' v.ownBlock/\(v'.ownBlock=v.ownBlock\/v'.ownBlock=some w.heap.size):=by
 obtain ⟨i,hi,hz0,hz1,hz2⟩:=info_parts Tryz.infoU8
 have e1:(l++[x]).length=l.length+1:=by simp
 have e2:bc (l++[x])=bc l++bc [x]:=cG7 _ _
 have hnews:∀j u,(bc [x])[j]?=some u->w.cell? (ad.add j)=some u:=fun j u hu=>by
  cases j with
  | zero=>simp[bc] at hu;rw[<-hu];exact hx
  | succ j=>simp[bc] at hu
 rw[e1,e2]
 rcases h with h|⟨g,rfl,hg,hgs,hc⟩
 ·obtain ⟨v',w',h1,h2,h3,_,h4⟩:=run_append_own_at (P:=Tryz.prog) w B 99 ty 5 i (.int .u8 0) 1 1 Tryz.underlying99 hi hz0 hz1 hz2 rfl (by omega) v l.length (bc l) h ad 1 c (bc [x]) rfl hnews (cG6 _) (by unfold maxLen;omega) (by omega) hB
  exact ⟨v',w',h1,h2,h3,h4⟩
 ·have hr:=run_append_grow (P:=Tryz.prog) w 99 ty 5 i (.int .u8 0) Tryz.underlying99 hi hz0 ⟨g,0,none⟩ l.length l.length (bc l) (by rw[hz1,bN0];omega) (fun j u hu=>by rw[Addr.add_lit,Nat.zero_add];exact hc j u hu) ad 1 c (bc [x]) (by rw[hz1];rfl) hnews (by omega) (by omega) (growslice_fits (by omega) (by rw[hz2];omega))
  refine ⟨_,_,hr,⟨by simp[bc],.inr ⟨w.heap.size,_,_,rfl,hB,heap_alloc_new w.drew _,grownCap_ge _ _ _ _,grownCap_le_maxLen w _ _ _ (by unfold maxLen;omega),?_,?_⟩⟩,⟨rfl,rfl,rfl,by simp,fun k hk _=>Below.heap_alloc w.drew _ k hk⟩,.inr rfl⟩
  ·have:=grownCap_ge w (l.length+1) l.length 5
   simp only[Array.size_append,List.size_toArray,size_zeroCells,bN0]
   simp[Value.cells]
   omega
  ·simp only[Array.toList_append,List.append_assoc]
   rw[<-List.append_assoc]
   have e3:(bc l++bc [x]).length=(l.length+1)*1:=by simp[bc]
   rw[<-e3]
   exact List.take_left
theorem lB {w:World}{ops:Array Oper}{rest:List Oper}{o:Oper}{a:Act}{Q:Exit->Act->World->Prop}(hgd:o.guard=none) (s x:Operand)
    (ho:o.op=.call { callee:=.builtin .append,args:=#[s,x],argTypes:=#[99,99] }) (B:Nat) {v:Value}{l:List UInt8}(hs:a.eval s=v) (h:I9 w B v l) (ad:Addr) (c:Nat) (b:UInt8) (hx:a.eval x=.slice (some ad) 1 c)
    (hb:w.cell? (ad.add 0)=some (.int .u8 b.toNat)) (hl:l.length+1≤140737488355328) (hB:B≤w.heap.size)
    (hK:∀v' w',w'.ownsRow B 5 1 v' (l++[b]).length (bc (l++[b]))->w.grownBy w' v.ownBlock->(v'.ownBlock=v.ownBlock\/v'.ownBlock=some w.heap.size)->wpList Tryz.prog ops Q rest (a.put o.dst v') w') :
    wpList Tryz.prog ops Q (o::rest) a w:=by
 obtain ⟨v',w',hr,h1,h2,h3⟩:=bC6 h o.type ad c b hb hl hB
 refine wpList_plain hgd fun K hK'=>?_
 unfold Oper.wp execOp
 simp only[ho,resolve,invoke,builtin,Sem.run_bind,Sem.run_pure,Result.andThen_ok,List.map_toArray,List.map_cons,List.map_nil,hs,hx,hr]
 exact hK' _ _ (hK v' w' h1 h2 h3)
theorem xE {w:World}{B:Nat}{v:Value}{l:List UInt8}(h:I9 w B v l):(convert 99 9 v).run Tryz.prog w=.ok (.string ⟨l.toArray⟩) w:=by
 have key:∀g cap,(∀j u,(bc l)[j]?=some u->w.cell? ⟨g,j,none⟩=some u)->(convert 99 9 (.slice (some ⟨g,0,none⟩) l.length cap)).run Tryz.prog w=.ok (.string ⟨l.toArray⟩) w:=fun g cap hc=>
  run_convert_bytes_back w _ _ 5 ⟨g,0,none⟩ cap l Tryz.underlying99 Tryz.underlying5 Tryz.underlying9 (fun j hj=>by
   rw[Addr.add_lit,Nat.zero_add]
   exact hc j _ (by simp[bc,hj]))
 rcases h with h|⟨g,rfl,_,_,hc⟩
 ·have hcl:=fun g hg=>World.ownsRow.cells h (g:=g) hg
  rcases h.2 with ⟨rfl,h0⟩|⟨g,cap,cur,rfl,_⟩
  ·have:l=[]:=List.eq_nil_of_length_eq_zero h0
   subst this
   rw[run_convert_bytes_string w _ _ 5 none 0 0 Tryz.underlying99 Tryz.underlying5 Tryz.underlying9]
   rfl
  ·refine key g cap fun j u hu=>?_
   have:=hcl g rfl j u hu
   rwa [Addr.add_lit,Nat.zero_add] at this
 ·exact key g _ hc
theorem I9.kept {w w':World}{B:Nat}{v:Value}{l:List UInt8}(h:I9 w B v l) (hk:∀g,v.ownBlock=some g->w'.heap[g]?=w.heap[g]?) (hs:w.heap.size≤w'.heap.size):I9 w' B v l:=by
 rcases h with h|⟨g,rfl,hg,hgs,hc⟩
 ·left
  refine ⟨h.1,?_⟩
  rcases h.2 with hn|⟨g,cap,cur,rfl,hb,hgg,rest⟩
  ·exact .inl hn
  ·exact .inr ⟨g,cap,cur,rfl,hb,by rw[hk g rfl];exact hgg,rest⟩
 ·right
  exact ⟨g,rfl,hg,by omega,fun j u hu=>by rw[cA (hk g rfl)];exact hc j u hu⟩
theorem I9.lt {w:World}{B:Nat}{v:Value}{l:List UInt8}(h:I9 w B v l):∀g,v.ownBlock=some g->B≤g/\g<w.heap.size:=by
 intro k hk
 rcases h with h|⟨g,rfl,hg,hgs,hc⟩
 ·exact h.lt k hk
 ·simp[Value.ownBlock] at hk
  subst hk
  exact ⟨hg,hgs⟩
theorem I9.shape {w:World}{B:Nat}{v:Value}{l:List UInt8}(h:I9 w B v l):∃ao cap,v=.slice ao l.length cap:=by
 rcases h with h|⟨g,rfl,_⟩
 ·rcases h.2 with ⟨rfl,h0⟩|⟨g,cap,cur,rfl,_⟩
  ·exact ⟨none,0,by rw[h0]⟩
  ·exact ⟨_,_,rfl⟩
 ·exact ⟨_,_,rfl⟩
end Ix
end
end Go.Proofs.YtcdbhoknhnimcaaGreatDoor
