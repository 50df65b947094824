import Derived.Test.YtcdbhoknhnimcaaGreatDoorSEzg0
import Derived.Test.YtcdbhoknhnimcaaGreatDoorSPcatch
import Derived.Test.YtcdbhoknhnimcaaGreatDoorSLaidU
import Derived.Test.YtcdbhoknhnimcaaGreatDoorSNo
import Derived.BigQuiet
set_option maxRecDepth 100000
set_option maxHeartbeats 16000000
namespace Go.Proofs.YtcdbhoknhnimcaaGreatDoor
section
open Go.RowKit Px
namespace Ew
open Px.Em (Kd Vr eH eI iN Rg bY)
open Nx (Nt Sp gJ)
def Ac (c:fQ):Option Nt:=match Em.sE c with
 | none=>none
 | some n=>if Nx.dY n=(0,-1) then some n else none
theorem kT {n:Nt}(h:Nx.dY n=(0,-1)):Nx.eU n:=by
 unfold Nx.dY at h
 by_cases hw:Nx.cZ n=0
 ·unfold Nx.cZ at hw
  by_cases h0:n.places<0\/4000<n.places\/4000<n.code.length\/4000<n.nums.length\/4000<n.ins.length+n.outs.length+n.keeps.length
  ·rw[if_pos h0] at hw;omega
  ·exact ⟨by omega,by omega,by omega,by omega⟩
 ·rw[if_neg hw] at h;injection h with h;exact absurd h hw
def cV6 (c:fQ) (w:World) (e:Ending) (w':World):Prop:=Below w.heap.size w w'/\((Ac c=none/\∃t v,e=.returned (.tuple #[.agg ZN,.iface t v]))\/∃(n:Nt) (vF vI vO vK vN vC:Value),Ac c=some n/\e=.returned (.tuple #[.agg #[.int .i64 n.places,vF,vI,vO,vK,vN,vC],.nilIface])/\pK (fun b=>w.heap.size≤b/\b<w'.heap.size) w' n vF vI vO vK vN vC/\uA n/\Nx.dY n=(0,-1))
theorem sN (tmps:Array Value) (W:World) (c:Nat) (fc:Array Value) (v:Value) (hsz:fc.size=7) (hp:tmps[2]?.getD undef=.pointer (some ⟨c,0,none⟩)) (hq:tmps[3]?.getD undef=v) (hc:W.heap[c]?=some (.cells fc 26 (0,0))) :
    (results Tryz.f27 tmps).run Tryz.prog W=.ok (.tuple #[.agg fc,v]) W:=by
 simp[results,Tryz.results27,hp,hq,asAddr,C0 hsz hc]
theorem bC2 {w2:World}{c:Nat}{a0 a1 a2 a3 a4 a5 a6:Value}(hc:w2.heap[c]?=some (.cells ZN 26 (0,0))) {w3:World}(hw:w3=((((((w2.setCell ⟨c,0,none⟩ a0).setCell ⟨c,1,none⟩ a1).setCell ⟨c,2,none⟩ a2).setCell ⟨c,3,none⟩ a3).setCell ⟨c,4,none⟩ a4).setCell ⟨c,5,none⟩ a5).setCell ⟨c,6,none⟩ a6) :
    w3.heap[c]?=some (.cells #[a0,a1,a2,a3,a4,a5,a6] 26 (0,0))/\(∀k,k≠c->w3.heap[k]?=w2.heap[k]?)/\(∀B a,Below B a w2->B≤c->Below B a w3)/\w3.heap.size=w2.heap.size:=by
 have h0:=bS (l:=[.int .i64 0,.slice none 0 0,.slice none 0 0,.slice none 0 0,.slice none 0 0,.slice none 0 0,.slice none 0 0]) hc 0 a0
 have h1:=bS (l:=[a0,.slice none 0 0,.slice none 0 0,.slice none 0 0,.slice none 0 0,.slice none 0 0,.slice none 0 0]) h0 1 a1
 have h2:=bS (l:=[a0,a1,.slice none 0 0,.slice none 0 0,.slice none 0 0,.slice none 0 0,.slice none 0 0]) h1 2 a2
 have h3:=bS (l:=[a0,a1,a2,.slice none 0 0,.slice none 0 0,.slice none 0 0,.slice none 0 0]) h2 3 a3
 have h4:=bS (l:=[a0,a1,a2,a3,.slice none 0 0,.slice none 0 0,.slice none 0 0]) h3 4 a4
 have h5:=bS (l:=[a0,a1,a2,a3,a4,.slice none 0 0,.slice none 0 0]) h4 5 a5
 have h6:=bS (l:=[a0,a1,a2,a3,a4,a5,.slice none 0 0]) h5 6 a6
 have ot:∀(W:World) (j:Nat) (u:Value) (k:Nat),k≠c->(W.setCell ⟨c,j,none⟩ u).heap[k]?=W.heap[k]?:=fun W j u k hk=>Below.heap_setCell _ _ _ _ hk
 have bl:∀(B:Nat) (a W:World) (j:Nat) (u:Value),Below B a W->B≤c->Below B a (W.setCell ⟨c,j,none⟩ u):=fun B a W j u h hB=>h.setCell (p:=⟨c,j,none⟩) hB u
 have sz:∀(W:World) (j:Nat) (u:Value),(W.setCell ⟨c,j,none⟩ u).heap.size=W.heap.size:=fun W j u=>by simp[World.setCell]
 rw[hw]
 refine ⟨h6,fun k hkc=>?_,fun B a hb hBc=>?_,?_⟩
 ·rw[ot _ _ _ _ hkc,ot _ _ _ _ hkc,ot _ _ _ _ hkc,ot _ _ _ _ hkc,ot _ _ _ _ hkc,ot _ _ _ _ hkc,ot _ _ _ _ hkc]
 ·exact bl _ _ _ _ _ (bl _ _ _ _ _ (bl _ _ _ _ _ (bl _ _ _ _ _ (bl _ _ _ _ _ (bl _ _ _ _ _ (bl _ _ _ _ _ hb hBc) hBc) hBc) hBc) hBc) hBc) hBc
 ·rw[sz,sz,sz,sz,sz,sz,sz]
section
variable {A:Nat->Prop}{w:World}
theorem bL4 {c:fQ}{S:ByteArray}{a a':Option Addr}{n m n' m':Nat}(hC:fY A w c (.agg #[.string S,.slice a n m,.slice a' n' m'])) (hA:∀x,A x->x<w.heap.size) (hem:Cf c) :
    Calls Tryz.prog 27 #[.agg #[.string S,.slice a n m,.slice a' n' m']] w (cV6 c w):=by
 obtain ⟨W0,hW0⟩:∃W0,W0=(w.alloc (.cells #[.string S,.slice a n m,.slice a' n' m'] 52)).alloc (.cells ZN 26):=⟨_,rfl⟩
 obtain ⟨U1,hU1⟩:∃U1,U1=w.alloc (.cells #[.string S,.slice a n m,.slice a' n' m'] 52):=⟨_,rfl⟩
 have s1:U1.heap.size=w.heap.size+1:=by rw[hU1];simp
 have hW0':W0=U1.alloc (.cells ZN 26):=by rw[hU1];exact hW0
 have s0:W0.heap.size=w.heap.size+2:=by rw[hW0'];simp[s1]
 have b1:Below w.heap.size w U1:=by rw[hU1];exact aD _ _
 have b2:Below U1.heap.size U1 W0:=by rw[hW0'];exact aD _ _
 have x0:W0.heap[w.heap.size]?=some (.cells #[.string S,.slice a n m,.slice a' n' m'] 52 (0,0)):=aR b2 (by rw[hU1];exact bF w _)
 have x1:W0.heap[w.heap.size+1]?=some (.cells ZN 26 (0,0)):=by rw[<-s1,hW0'];exact bF U1 _
 have hb0:Below w.heap.size w W0:=aW b1 b2
 have cB:∀W,Below w.heap.size w W->fY A W c (.agg #[.string S,.slice a n m,.slice a' n' m']):=fun W hb=>by
  obtain ⟨p1,p2,p3,p4,p5,p6,p7,p8,p9⟩:=hC
  have kp:bD A A w W:=fun x hx hl=>⟨hx,hb.block x hl⟩
  exact ⟨p1,p2,p3,p4,p5,p6,p7,p8.carry kp,p9.carry kp (aJ.carry kp 6)⟩
 have hck:Calls Tryz.prog 53 #[.agg #[.string S,.slice a n m,.slice a' n' m']] W0 fun e w'=>e=.returned .nilIface/\Hid (Below W0.heap.size W0 w'):=(iM (cB W0 hb0) hem.run.nm).mono fun e w' h=>by
  rw[hem.run.ok] at h
  obtain ⟨hb,⟨_,rfl⟩|⟨_,h,_⟩|⟨_,_,_,h,_⟩⟩:=h
  ·exact ⟨rfl,hb⟩
  ·simp at h
  ·simp at h
 have HC:Hid ((∀W,Below w.heap.size w W->fY A W c (.agg #[.string S,.slice a n m,.slice a' n' m']))/\(∀x,A x->x<w.heap.size)/\Cf c):=⟨cB,hA,hem⟩
 have HB:Hid (Below w.heap.size w W0/\W0.heap.size=w.heap.size+2/\W0.heap[w.heap.size]?=some (.cells #[.string S,.slice a n m,.slice a' n' m'] 52 (0,0))/\W0.heap[w.heap.size+1]?=some (.cells ZN 26 (0,0))):=⟨hb0,s0,x0,x1⟩
 have y0:=aA x0 0 (u:=.string S) rfl
 have y1:=aA x0 1 (u:=.slice a n m) rfl
 have y2:=aA x0 2 (u:=.slice a' n' m') rfl
 clear hC hA hem cB s1 hW0' hU1 s0 b1 b2 x0 x1 hb0
 go_enter Tryz.func27,Tryz.ntmps27
 go_upto_region 1 with fail
 rw[show (w.alloc (.cells #[.string S,.slice a n m,.slice a' n' m'] 52)).alloc (.cells #[.int .i64 0,.slice none 0 0,.slice none 0 0,.slice none 0 0,.slice none 0 0,.slice none 0 0,.slice none 0 0] 26)=W0 from hW0.symm]
 clear hW0
 go_upto_region 4 with (go_at_call 53;refine hck.mono ?_;rintro e w1 ⟨rfl,h1⟩)
 have hb1:Below w.heap.size w w1:=aW HB.out.1 h1.out
 have x1:=aR h1.out HB.out.2.2.2
 have y0:=aV h1.out y0
 have y1:=aV h1.out y1
 have y2:=aV h1.out y2
 have hwr:=aO2 (HC.out.1 w1 hb1) (fun x hx=>Nat.lt_of_lt_of_le (HC.out.2.1 x hx) hb1.size) HC.out.2.2
 have HB1:Hid (Below w.heap.size w w1/\w.heap.size+2≤w1.heap.size/\w1.heap[w.heap.size+1]?=some (.cells ZN 26 (0,0))):=⟨hb1,by have:=h1.out.size;have:=HB.out.2.1;omega,x1⟩
 clear hck h1 hb1 x1
 cases h1:Em.sE c with
 | none=>
  have H1:Hid (Em.sE c=none):=h1
  clear h1
  have hwr':Calls Tryz.prog 54 #[.agg #[.string S,.slice a n m,.slice a' n' m']] w1 fun e w'=>e=.returned (.tuple #[.agg ZN,.iface 94 (.int .i64 4)])/\Hid (Below w1.heap.size w1 w'):=hwr.mono fun e w' h=>by
   rw[H1.out] at h
   obtain ⟨hb,⟨_,rfl⟩|⟨_,_,_,_,_,_,_,h,_⟩⟩:=h
   ·exact ⟨rfl,hb⟩
   ·simp at h
  clear hwr
  unfold ZN at hwr'
  go_upto_region 5 with (go_at_call 54;refine hwr'.mono ?_;rintro e w2 ⟨rfl,h2⟩)
  obtain ⟨V,hV⟩:∃V,V=w2.alloc (.cells #[.int .i64 0,.slice none 0 0,.slice none 0 0,.slice none 0 0,.slice none 0 0,.slice none 0 0,.slice none 0 0] 26):=⟨_,rfl⟩
  have hbV:Below w2.heap.size w2 V:=by rw[hV];exact aD _ _
  have u1:=aR hbV (aR h2.out HB1.out.2.2)
  have HBV:Hid (Below w.heap.size w V/\V.heap[w.heap.size+1]?=some (.cells ZN 26 (0,0))):=⟨aW (aW HB1.out.1 h2.out) hbV,u1⟩
  obtain ⟨r0,r1,r2,r3,r4,r5,r6⟩:=eG u1
  have rf:∀o,V.frozen? ⟨w.heap.size+1,o,none⟩=false:=fun o=>aH u1 o
  rw[<-hV]
  clear hV hbV h2 hwr' u1
  go_wp2_with fail
  obtain ⟨X,hX⟩:∃X,X=((((((V.setCell ⟨w.heap.size+1,0,none⟩ (.int .i64 0)).setCell ⟨w.heap.size+1,1,none⟩ (.slice none 0 0)).setCell ⟨w.heap.size+1,2,none⟩ (.slice none 0 0)).setCell ⟨w.heap.size+1,3,none⟩ (.slice none 0 0)).setCell ⟨w.heap.size+1,4,none⟩ (.slice none 0 0)).setCell ⟨w.heap.size+1,5,none⟩ (.slice none 0 0)).setCell ⟨w.heap.size+1,6,none⟩ (.slice none 0 0):=⟨_,rfl⟩
  rw[<-hX]
  obtain ⟨z0,z1,z2,z3⟩:=bC2 HBV.out.2 hX
  clear hX
  refine bodyPost_ret (sN _ _ (w.heap.size+1) _ _ rfl rfl rfl z0) rfl ?_
  exact ⟨z2 _ _ HBV.out.1 (by omega),.inl ⟨by unfold Ac;rw[H1.out],_,_,rfl⟩⟩
 | some N=>
  have H1:Hid (Em.sE c=some N):=h1
  clear h1
  have hwr':Calls Tryz.prog 54 #[.agg #[.string S,.slice a n m,.slice a' n' m']] w1 fun e w'=>∃e1 l1 o1 e2 l2 o2 e3 l3 o3 e4 l4 o4 e5 l5 o5 e6 l6 o6,e=.returned (.tuple #[.agg #[.int .i64 N.places,.slice e1 l1 o1,.slice e2 l2 o2,.slice e3 l3 o3,.slice e4 l4 o4,.slice e5 l5 o5,.slice e6 l6 o6],.nilIface])/\Hid (Below w1.heap.size w1 w'/\pK (fun b=>w1.heap.size≤b/\b<w'.heap.size) w' N (.slice e1 l1 o1) (.slice e2 l2 o2) (.slice e3 l3 o3) (.slice e4 l4 o4) (.slice e5 l5 o5) (.slice e6 l6 o6)/\uA N):=hwr.mono fun e w' h=>by
   rw[H1.out] at h
   obtain ⟨hb,⟨h,_⟩|⟨nn,vF,vI,vO,vK,vN,vC,h,rfl,hN,hf⟩⟩:=h
   ·simp at h
   ·injection h with h
    subst h
    obtain ⟨e1,_,_,o1,rfl,_⟩:=id hN.f
    obtain ⟨e2,_,_,o2,rfl,_⟩:=id hN.i
    obtain ⟨e3,_,_,o3,rfl,_⟩:=id hN.o
    obtain ⟨e4,_,_,o4,rfl,_⟩:=id hN.k
    obtain ⟨e5,_,_,o5,rfl,_⟩:=id hN.m
    obtain ⟨e6,_,_,o6,rfl,_⟩:=id hN.c
    exact ⟨_,_,_,_,_,_,_,_,_,_,_,_,_,_,_,_,_,_,rfl,hb,hN,hf⟩
  obtain ⟨pl,hpl⟩:∃pl,pl=N.places:=⟨_,rfl⟩
  rw[<-hpl] at hwr'
  have HPL:Hid (pl=N.places):=hpl
  clear hwr hpl
  go_upto_region 5 with (go_at_call 54;refine hwr'.mono ?_;rintro e w2 ⟨e1,l1,o1,e2,l2,o2,e3,l3,o3,e4,l4,o4,e5,l5,o5,e6,l6,o6,rfl,h2⟩)
  obtain ⟨q5,hq5⟩:∃q5,q5=w2.heap.size:=⟨_,rfl⟩
  obtain ⟨V,hV⟩:∃V,V=w2.alloc (.cells #[.int .i64 pl,.slice e1 l1 o1,.slice e2 l2 o2,.slice e3 l3 o3,.slice e4 l4 o4,.slice e5 l5 o5,.slice e6 l6 o6] 26):=⟨_,rfl⟩
  have hbV:Below w2.heap.size w2 V:=by rw[hV];exact aD _ _
  have hkV:V.heap[q5]?=some (.cells #[.int .i64 pl,.slice e1 l1 o1,.slice e2 l2 o2,.slice e3 l3 o3,.slice e4 l4 o4,.slice e5 l5 o5,.slice e6 l6 o6] 26 (0,0)):=by rw[hV,hq5];exact bF w2 _
  have hNV:pK (fun b=>w1.heap.size≤b/\b<V.heap.size) V N (.slice e1 l1 o1) (.slice e2 l2 o2) (.slice e3 l3 o3) (.slice e4 l4 o4) (.slice e5 l5 o5) (.slice e6 l6 o6):=h2.out.2.1.carry fun b hb hl=>⟨⟨hb.1,Nat.lt_of_lt_of_le hb.2 hbV.size⟩,hbV.block b hl⟩
  have u1:=aR hbV (aR h2.out.1 HB1.out.2.2)
  have HBV:Hid (Below w.heap.size w V/\V.heap[w.heap.size+1]?=some (.cells ZN 26 (0,0))/\uA N/\pK (fun b=>w1.heap.size≤b/\b<V.heap.size) V N (.slice e1 l1 o1) (.slice e2 l2 o2) (.slice e3 l3 o3) (.slice e4 l4 o4) (.slice e5 l5 o5) (.slice e6 l6 o6)/\V.heap[q5]?=some (.cells #[.int .i64 pl,.slice e1 l1 o1,.slice e2 l2 o2,.slice e3 l3 o3,.slice e4 l4 o4,.slice e5 l5 o5,.slice e6 l6 o6] 26 (0,0))):=⟨aW (aW HB1.out.1 h2.out.1) hbV,u1,h2.out.2.2,hNV,hkV⟩
  obtain ⟨p0,p1,p2,p3,p4,p5,p6⟩:=eG hkV
  by_cases h2':Nx.dY N=(0,-1)
  ·have H2:Hid (Nx.dY N=(0,-1)):=h2'
   clear h2'
   have hnet:=(show Calls Tryz.prog 29 #[.agg #[.int .i64 pl,.slice e1 l1 o1,.slice e2 l2 o2,.slice e3 l3 o3,.slice e4 l4 o4,.slice e5 l5 o5,.slice e6 l6 o6]] V fun e w'=>e=.returned .nilIface/\Hid (Below V.heap.size V w') from by
    have hv:=hNV.netV (B:=V.heap.size) fun b hb=>hb.2
    rw[HPL.out]
    refine (Nx.iM V.heap.size N V _ _ _ _ _ _ hv (Nat.le_refl _) (kT H2.out)).mono fun e w' h=>?_
    obtain ⟨v,rfl,he,hb⟩:=h
    rw[H2.out] at he
    rcases he with ⟨_,_,rfl⟩|⟨c1,_,_⟩|⟨c1,_⟩
    ·exact ⟨rfl,hb⟩
    ·exact absurd rfl c1
    ·exact absurd rfl c1)
   rw[<-hV,<-hq5]
   clear hV hq5 hbV hkV hNV h2 hwr' u1
   go_upto_region 9 with (go_at_call 29;refine hnet.mono ?_;rintro e w3 ⟨rfl,h3⟩)
   have u1:=aR h3.out HBV.out.2.1
   have hk3:=aR h3.out HBV.out.2.2.2.2
   have HBW:Hid (Below w.heap.size w w3/\w3.heap[w.heap.size+1]?=some (.cells ZN 26 (0,0))/\pK (fun b=>w1.heap.size≤b/\b<w3.heap.size) w3 N (.slice e1 l1 o1) (.slice e2 l2 o2) (.slice e3 l3 o3) (.slice e4 l4 o4) (.slice e5 l5 o5) (.slice e6 l6 o6)):=⟨aW HBV.out.1 h3.out,u1,HBV.out.2.2.2.1.carry fun b hb hl=>⟨⟨hb.1,Nat.lt_of_lt_of_le hb.2 h3.out.size⟩,h3.out.block b hl⟩⟩
   obtain ⟨r0,r1,r2,r3,r4,r5,r6⟩:=eG u1
   have rf:∀o,w3.frozen? ⟨w.heap.size+1,o,none⟩=false:=fun o=>aH u1 o
   obtain ⟨p0,p1,p2,p3,p4,p5,p6⟩:=eG hk3
   clear hnet h3 u1 hk3
   go_wp2_with fail
   obtain ⟨X,hX⟩:∃X,X=((((((w3.setCell ⟨w.heap.size+1,0,none⟩ (.int .i64 pl)).setCell ⟨w.heap.size+1,1,none⟩ (.slice e1 l1 o1)).setCell ⟨w.heap.size+1,2,none⟩ (.slice e2 l2 o2)).setCell ⟨w.heap.size+1,3,none⟩ (.slice e3 l3 o3)).setCell ⟨w.heap.size+1,4,none⟩ (.slice e4 l4 o4)).setCell ⟨w.heap.size+1,5,none⟩ (.slice e5 l5 o5)).setCell ⟨w.heap.size+1,6,none⟩ (.slice e6 l6 o6):=⟨_,rfl⟩
   rw[<-hX]
   obtain ⟨z0,z1,z2,z3⟩:=bC2 HBW.out.2.1 hX
   clear hX
   refine bodyPost_ret (sN _ _ (w.heap.size+1) _ _ rfl rfl rfl z0) rfl ?_
   refine ⟨z2 _ _ HBW.out.1 (by omega),.inr ⟨N,_,_,_,_,_,_,by unfold Ac;rw[H1.out];exact if_pos H2.out,by rw[<-HPL.out];rfl,HBW.out.2.2.carry fun b hb hl=>⟨⟨?_,by rw[z3];exact hb.2⟩,z1 b ?_⟩,HBV.out.2.2.1,H2.out⟩⟩
   ·have:=HB1.out.2.1;omega
   ·have:=HB1.out.2.1;omega
  ·have H2:Hid (Nx.dY N≠(0,-1)):=h2'
   clear h2'
   have hnet:=(show Calls Tryz.prog 29 #[.agg #[.int .i64 pl,.slice e1 l1 o1,.slice e2 l2 o2,.slice e3 l3 o3,.slice e4 l4 o4,.slice e5 l5 o5,.slice e6 l6 o6]] V fun e w'=>∃t v,e=.returned (.iface t v)/\Hid (Below V.heap.size V w') from by
    have hv:=hNV.netV (B:=V.heap.size) fun b hb=>hb.2
    have hf:=h2.out.2.2
    rw[HPL.out]
    by_cases hs:Nx.eU N
    ·refine (Nx.iM V.heap.size N V _ _ _ _ _ _ hv (Nat.le_refl _) hs).mono fun e w' h=>?_
     obtain ⟨v,rfl,he,hb⟩:=h
     rcases he with ⟨c1,c2,rfl⟩|⟨_,_,rfl⟩|⟨_,g,q,_,_,rfl,_⟩
     ·exact absurd (Prod.ext c1 c2) H2.out
     ·exact ⟨_,_,rfl,hb⟩
     ·exact ⟨_,_,rfl,hb⟩
    ·refine (Nx.aX5 V.heap.size N V _ _ _ _ _ _ hv (by rw[hf.len];omega) (by rw[hf.len];have:=hf.few;omega) hf.code (by have:=hf.nums;have:=hf.code;omega) (by have:=hf.few;have:=hf.ins;have:=hf.outs;have:=hf.keeps;omega) hs).mono fun e w' h=>?_
     obtain ⟨rfl,hb⟩:=h
     exact ⟨_,_,rfl,hb⟩)
   rw[<-hV,<-hq5]
   clear hV hq5 hbV hkV hNV h2 hwr' u1
   go_upto_region 7 with (go_at_call 29;refine hnet.mono ?_;rintro e w3 ⟨tt,tv,rfl,h3⟩)
   have u1:=aR h3.out HBV.out.2.1
   have HBW:Hid (Below w.heap.size w w3/\w3.heap[w.heap.size+1]?=some (.cells ZN 26 (0,0))):=⟨aW HBV.out.1 h3.out,u1⟩
   obtain ⟨r0,r1,r2,r3,r4,r5,r6⟩:=eG u1
   have rf:∀o,w3.frozen? ⟨w.heap.size+1,o,none⟩=false:=fun o=>aH u1 o
   clear hnet h3 u1 p0 p1 p2 p3 p4 p5 p6
   go_wp2_with fail
   obtain ⟨X,hX⟩:∃X,X=((((((w3.setCell ⟨w.heap.size+1,0,none⟩ (.int .i64 0)).setCell ⟨w.heap.size+1,1,none⟩ (.slice none 0 0)).setCell ⟨w.heap.size+1,2,none⟩ (.slice none 0 0)).setCell ⟨w.heap.size+1,3,none⟩ (.slice none 0 0)).setCell ⟨w.heap.size+1,4,none⟩ (.slice none 0 0)).setCell ⟨w.heap.size+1,5,none⟩ (.slice none 0 0)).setCell ⟨w.heap.size+1,6,none⟩ (.slice none 0 0):=⟨_,rfl⟩
   rw[<-hX]
   obtain ⟨z0,z1,z2,z3⟩:=bC2 HBW.out.2 hX
   clear hX
   refine bodyPost_ret (sN _ _ (w.heap.size+1) _ _ rfl rfl rfl z0) rfl ?_
   exact ⟨z2 _ _ HBW.out.1 (by omega),.inl ⟨by unfold Ac;rw[H1.out];exact if_neg H2.out,_,_,rfl⟩⟩
end
end Ew
end
section
open Go.RowKit Px
namespace Kx
theorem bR6 {X:World}{fb T:Nat}{x y z:Value}(h:X.heap[fb]?=some (.cells #[x,y,z] T (0,0))) (a b c:Value):(((X.setCell ⟨fb,0,none⟩ a).setCell ⟨fb,1,none⟩ b).setCell ⟨fb,2,none⟩ c).heap[fb]?=some (.cells #[a,b,c] T (0,0)):=
 bS (l:=[a,b,z]) (bS (l:=[a,y,z]) (bS (l:=[x,y,z]) h 0 a) 1 b) 2 c
theorem mU {w X:World}{fb:Nat}(h:Below w.heap.size w X) (hb:w.heap.size≤fb) (a b c:Value):Below w.heap.size w (((X.setCell ⟨fb,0,none⟩ a).setCell ⟨fb,1,none⟩ b).setCell ⟨fb,2,none⟩ c):=
 ((h.setCell hb _).setCell hb _).setCell hb _
theorem cJ6 {s:ByteArray}{l:List Lx.fJ}{c:fQ}{w:World}(hs:s.size≤1500) (hv:pV w) (hok:Lx.Ok (bs s) l) (hch:cX (sZ s l)=.ok c) :
    Calls Tryz.prog 26 #[.string s] w fun e w'=>(fV c=none/\∃S a n m a' n' m',e=.returned (.tuple #[.agg #[.string S,.slice a n m,.slice a' n' m'],.bool true])/\Hid (fY (fun b=>w.heap.size<b) w' c (.agg #[.string S,.slice a n m,.slice a' n' m'])/\Below w.heap.size w w')) \/
     (fV c≠none/\e=.returned (.tuple #[.agg #[.string ⟨#[]⟩,.slice none 0 0,.slice none 0 0],.bool false])/\Hid (Below w.heap.size w w')):=by
 have hN:=B8 (uV hok) hch
 obtain ⟨W0,hW0⟩:∃W0,W0=w.alloc (.cells #[.string ⟨#[]⟩,.slice none 0 0,.slice none 0 0] 52):=⟨_,rfl⟩
 have hb0:Below w.heap.size w W0:=by rw[hW0];exact aD w _
 have hp:Calls Tryz.prog 52 #[.string s] W0 fun e w'=>∃S a n m a' n' m',e=.returned (.tuple #[.agg #[.string S,.slice a n m,.slice a' n' m'],.nilIface])/\Hid (fY (fun b=>w.heap.size<b) w' c (.agg #[.string S,.slice a n m,.slice a' n' m'])/\Below W0.heap.size W0 w'):=
  (bE5 s l c W0 (by omega) (hv.up hb0).big (hv.up hb0).tabs (hv.up hb0).marks hok hch).mono fun e w' ⟨v,he,hC,hb⟩=>by
   obtain ⟨a,n,m,a',n',m',rfl,h1,h2⟩:=hC
   have kp:bD (Ge W0.heap.size) (fun b=>w.heap.size<b) w' w':=fun b hb' _=>⟨by have h3:W0.heap.size≤b:=hb';rw[hW0] at h3;simp at h3;omega,rfl⟩
   exact ⟨_,a,n,m,a',n',m',he,⟨a,n,m,a',n',m',rfl,h1.carry kp,h2.carry kp (aJ.carry kp 6)⟩,hb⟩
 have HB0:Hid (_/\W0.heap[w.heap.size]?=some (.cells #[.string ⟨#[]⟩,.slice none 0 0,.slice none 0 0] 52 (0,0))):=⟨hb0,by rw[hW0];exact bF _ _⟩
 have hs1:¬(1500:Int)<(s.size:Int):=by omega
 have HN:Hid _:=hN
 rw[hW0] at hp HB0
 clear hN hv hok hch hW0 hb0
 go_enter Tryz.func26,Tryz.ntmps26
 go_wp2_with fail
 refine hp.mono ?_
 rintro e w1 ⟨S,a,n,m,a',n',m',rfl,h1⟩
 obtain ⟨W1,hW1⟩:∃W1,W1=w1.alloc (.cells #[.string S,.slice a n m,.slice a' n' m'] 52):=⟨_,rfl⟩
 have hb1:Below w1.heap.size w1 W1:=by rw[hW1];exact aD w1 _
 have HW1:Hid (fY (fun b=>w.heap.size<b) W1 c (.agg #[.string S,.slice a n m,.slice a' n' m'])/\Below w.heap.size w W1/\W1.heap[w.heap.size]?=some (.cells #[.string ⟨#[]⟩,.slice none 0 0,.slice none 0 0] 52 (0,0))/\W1.heap[w1.heap.size]?=some (.cells #[.string S,.slice a n m,.slice a' n' m'] 52 (0,0))):=
  ⟨aN5 h1.out.1 hb1,aW HB0.out.1 (aW h1.out.2 hb1),aR (aW h1.out.2 hb1) HB0.out.2,by rw[hW1];exact bF _ _⟩
 have hck:=iM HW1.out.1 HN.out
 have x0:=aA HW1.out.2.2.2 0 (u:=.string S) rfl
 have x1:=aA HW1.out.2.2.2 1 (u:=.slice a n m) rfl
 have x2:=aA HW1.out.2.2.2 2 (u:=.slice a' n' m') rfl
 obtain ⟨o,ho⟩:∃o,Hid (fV c=o):=⟨_,rfl⟩
 rw[ho.out] at hck
 rw[hW1] at hck x0 x1 x2
 have HWE:Hid _:=hW1
 clear hp hb1 hW1 h1
 unfold bO1 at hck
 have HKW:Hid (∀w',Below W1.heap.size W1 w'->fY (fun b=>w.heap.size<b) w' c (.agg #[.string S,.slice a n m,.slice a' n' m'])/\Below w.heap.size w w'/\w'.heap[w.heap.size]?=some (.cells #[.string ⟨#[]⟩,.slice none 0 0,.slice none 0 0] 52 (0,0))/\w'.heap[w1.heap.size]?=some (.cells #[.string S,.slice a n m,.slice a' n' m'] 52 (0,0))):=fun w' hb=>⟨aN5 HW1.out.1 hb,aW HW1.out.2.1 hb,aR hb HW1.out.2.2.1,aR hb HW1.out.2.2.2⟩
 go_wp2_with fail
 cases o with
 | none=>
  have hc2:Calls Tryz.prog 53 #[.agg #[.string S,.slice a n m,.slice a' n' m']] (w1.alloc (.cells #[.string S,.slice a n m,.slice a' n' m'] 52)) fun e w'=>e=.returned .nilIface/\Hid (Below W1.heap.size W1 w'):=by
   rw[<-HWE.out] at hck ⊢
   exact hck.mono fun e w' ⟨hb,ho⟩=>by
    rcases ho with ⟨_,he⟩|⟨_,he,_⟩|⟨_,_,_,he,_⟩
    ·exact ⟨he,hb⟩
    ·simp at he
    ·simp at he
  clear hck x0 x1 x2
  refine hc2.mono ?_
  rintro e w2 ⟨rfl,hb2⟩
  obtain ⟨k1,k2,k3,k4⟩:=HKW.out w2 hb2.out
  have x0:=aA k4 0 (u:=.string S) rfl
  have x1:=aA k4 1 (u:=.slice a n m) rfl
  have x2:=aA k4 2 (u:=.slice a' n' m') rfl
  have f0:=aA k3 0 (u:=.string ⟨#[]⟩) rfl
  have f1:=aA k3 1 (u:=.slice none 0 0) rfl
  have f2:=aA k3 2 (u:=.slice none 0 0) rfl
  have z0:=aH k3 0
  have z1:=aH k3 1
  have z2:=aH k3 2
  have HB2:Hid (_/\_/\_):=⟨k2,k3,k1⟩
  clear k1 k2 k3 k4 hc2
  go_wp2_with fail
  refine bodyPost_ret (nS _ _ w.heap.size #[.string S,.slice a n m,.slice a' n' m'] rfl rfl (bR6 HB2.out.2.1 _ _ _)) rfl ?_
  refine .inl ⟨ho.out,S,a,n,m,a',n',m',rfl,?_,mU HB2.out.1 (Nat.le_refl _) _ _ _⟩
  obtain ⟨a2,n2,m2,a3,n3,m3,e,q1,q2⟩:=HB2.out.2.2
  have kp:bD (fun b=>w.heap.size<b) (fun b=>w.heap.size<b) w2 (((w2.setCell ⟨w.heap.size,0,none⟩ (.string S)).setCell ⟨w.heap.size,1,none⟩ (.slice a n m)).setCell ⟨w.heap.size,2,none⟩ (.slice a' n' m')):=fun b hb' _=>⟨hb',by
   have hne:b≠w.heap.size:=by have:w.heap.size<b:=hb';omega
   rw[Below.heap_setCell _ _ _ _ hne,Below.heap_setCell _ _ _ _ hne,Below.heap_setCell _ _ _ _ hne]⟩
  exact ⟨a2,n2,m2,a3,n3,m3,e,q1.carry kp,q2.carry kp (aJ.carry kp 6)⟩
 | some x=>
  obtain ⟨cc,pl⟩:=x
  have HNE:Hid (fV c≠none):=by rw[Hid,ho.out];simp
  cases pl with
  | none=>
   have hc2:Calls Tryz.prog 53 #[.agg #[.string S,.slice a n m,.slice a' n' m']] (w1.alloc (.cells #[.string S,.slice a n m,.slice a' n' m'] 52)) fun e w'=>e=.returned (.iface 94 (.int .i64 ((cc:Nat):Int)))/\Hid (Below W1.heap.size W1 w'):=by
    rw[<-HWE.out] at hck ⊢
    exact hck.mono fun e w' ⟨hb,ho⟩=>by
     rcases ho with ⟨he,_⟩|⟨c',he,h1⟩|⟨_,_,_,he,_⟩
     ·simp at he
     ·simp at he
      subst he
      exact ⟨h1,hb⟩
     ·simp at he
   clear hck x0 x1 x2
   refine hc2.mono ?_
   rintro e w2 ⟨rfl,hb2⟩
   obtain ⟨k1,k2,k3,k4⟩:=HKW.out w2 hb2.out
   have f0:=aA k3 0 (u:=.string ⟨#[]⟩) rfl
   have f1:=aA k3 1 (u:=.slice none 0 0) rfl
   have f2:=aA k3 2 (u:=.slice none 0 0) rfl
   have z0:=aH k3 0
   have z1:=aH k3 1
   have z2:=aH k3 2
   have HB2:Hid (_/\_):=⟨k2,k3⟩
   clear k1 k2 k3 k4 hc2
   go_wp2_with fail
   refine bodyPost_ret (nS _ _ w.heap.size #[.string ⟨#[]⟩,.slice none 0 0,.slice none 0 0] rfl rfl (bR6 HB2.out.2 _ _ _)) rfl ?_
   exact .inr ⟨HNE.out,rfl,mU HB2.out.1 (Nat.le_refl _) _ _ _⟩
  | some p=>
   have hc2:Calls Tryz.prog 53 #[.agg #[.string S,.slice a n m,.slice a' n' m']] (w1.alloc (.cells #[.string S,.slice a n m,.slice a' n' m'] 52)) fun e w'=>∃g,e=.returned (.iface 115 (.pointer (some ⟨g,0,none⟩)))/\Hid (Below W1.heap.size W1 w'):=by
    rw[<-HWE.out] at hck ⊢
    exact hck.mono fun e w' ⟨hb,ho⟩=>by
     rcases ho with ⟨he,_⟩|⟨c',he,h1⟩|⟨c',p',g,he,h1,_⟩
     ·simp at he
     ·simp at he
     ·exact ⟨g,h1,hb⟩
   clear hck x0 x1 x2
   refine hc2.mono ?_
   rintro e w2 ⟨ge,rfl,hb2⟩
   obtain ⟨k1,k2,k3,k4⟩:=HKW.out w2 hb2.out
   have f0:=aA k3 0 (u:=.string ⟨#[]⟩) rfl
   have f1:=aA k3 1 (u:=.slice none 0 0) rfl
   have f2:=aA k3 2 (u:=.slice none 0 0) rfl
   have z0:=aH k3 0
   have z1:=aH k3 1
   have z2:=aH k3 2
   have HB2:Hid (_/\_):=⟨k2,k3⟩
   clear k1 k2 k3 k4 hc2
   go_wp2_with fail
   refine bodyPost_ret (nS _ _ w.heap.size #[.string ⟨#[]⟩,.slice none 0 0,.slice none 0 0] rfl rfl (bR6 HB2.out.2 _ _ _)) rfl ?_
   exact .inr ⟨HNE.out,rfl,mU HB2.out.1 (Nat.le_refl _) _ _ _⟩
theorem aI8 {s:ByteArray}{w:World}(hv:pV w) (hno:s.size≤1500->∀l c,¬(Lx.Ok (bs s) l/\cX (sZ s l)=.ok c)) :
    Calls Tryz.prog 26 #[.string s] w fun e w'=>e=.returned (.tuple #[.agg #[.string ⟨#[]⟩,.slice none 0 0,.slice none 0 0],.bool false])/\Hid (Below w.heap.size w w'):=by
 have hfz:(w.alloc (.cells #[.string ⟨#[]⟩,.slice none 0 0,.slice none 0 0] 52)).heap[w.heap.size]?=some (.cells #[.string ⟨#[]⟩,.slice none 0 0,.slice none 0 0] 52 (0,0)):=bF _ _
 have f0:=aA hfz 0 (u:=.string ⟨#[]⟩) rfl
 have f1:=aA hfz 1 (u:=.slice none 0 0) rfl
 have f2:=aA hfz 2 (u:=.slice none 0 0) rfl
 have z0:=aH hfz 0
 have z1:=aH hfz 1
 have z2:=aH hfz 2
 have HFZ:Hid _:=hfz
 by_cases hs:s.size≤1500
 ·have hs1:¬(1500:Int)<(s.size:Int):=by omega
  have hb0:Below w.heap.size w (w.alloc (.cells #[.string ⟨#[]⟩,.slice none 0 0,.slice none 0 0] 52)):=aD w _
  have hp:Calls Tryz.prog 52 #[.string s] (w.alloc (.cells #[.string ⟨#[]⟩,.slice none 0 0,.slice none 0 0] 52)) fun e w'=>∃g,e=.returned (.tuple #[.agg #[.string ⟨#[]⟩,.slice none 0 0,.slice none 0 0],.iface 115 (.pointer (some ⟨g,0,none⟩))])/\Hid (Below (w.alloc (.cells #[.string ⟨#[]⟩,.slice none 0 0,.slice none 0 0] 52)).heap.size (w.alloc (.cells #[.string ⟨#[]⟩,.slice none 0 0,.slice none 0 0] 52)) w'):=by
   have hv0:=hv.up hb0
   by_cases hl:∃l,Lx.Ok (bs s) l
   ·obtain ⟨l,hok⟩:=hl
    cases hch:cX (sZ s l) with
    | ok c=>exact absurd ⟨hok,hch⟩ (hno hs l c)
    | error f=>exact (aS4 s l f _ (by omega) hv0.big hv0.tabs hv0.marks hok hch).mono fun e w' ⟨g,he,_,hb⟩=>⟨g,he,hb⟩
   ·exact (aS5 s _ (by omega) hv0.marks (fun l h=>hl ⟨l,h⟩)).mono fun e w' ⟨_,_,g,he,_,_,hb⟩=>⟨g,he,hb⟩
  clear hv hno hb0 hfz f0 f1 f2 z0 z1 z2
  go_enter Tryz.func26,Tryz.ntmps26
  go_wp2_with fail
  refine hp.mono ?_
  rintro e w1 ⟨g,rfl,hb1⟩
  have hfy:(w1.alloc (.cells #[.string ⟨#[]⟩,.slice none 0 0,.slice none 0 0] 52)).heap[w.heap.size]?=some (.cells #[.string ⟨#[]⟩,.slice none 0 0,.slice none 0 0] 52 (0,0)):=dR (aR hb1.out HFZ.out)
  have f0:=aA hfy 0 (u:=.string ⟨#[]⟩) rfl
  have f1:=aA hfy 1 (u:=.slice none 0 0) rfl
  have f2:=aA hfy 2 (u:=.slice none 0 0) rfl
  have z0:=aH hfy 0
  have z1:=aH hfy 1
  have z2:=aH hfy 2
  have HFY:Hid _:=hfy
  clear hfy hp
  go_wp2_with fail
  refine bodyPost_ret (nS _ _ w.heap.size #[.string ⟨#[]⟩,.slice none 0 0,.slice none 0 0] rfl rfl (bR6 HFY.out _ _ _)) rfl ?_
  exact ⟨rfl,mU (aW (aW (aD _ _) hb1.out) (aD _ _)) (Nat.le_refl _) _ _ _⟩
 ·have hs1:(1500:Int)<(s.size:Int):=by omega
  clear hv hno hs hfz
  go_enter Tryz.func26,Tryz.ntmps26
  go_wp2_with fail
  refine bodyPost_ret (nS _ _ w.heap.size #[.string ⟨#[]⟩,.slice none 0 0,.slice none 0 0] rfl rfl HFZ.out) rfl ?_
  exact ⟨rfl,aD _ _⟩
end Kx
end
section
open Go.RowKit
namespace Nx
def aY8 (n:Nt):Prop:=n.places≤300/\n.first.length≤300/\n.ins.length≤30/\n.outs.length≤30/\n.keeps.length≤60/\n.nums.length≤60/\n.code.length≤120
theorem aY8.small {n:Nt}(h:aY8 n):eU n:=⟨by have:=h.1;omega,by have:=h.2.2.2.2.2.2;omega,by have:=h.2.2.2.2.2.1;omega,by have:=h.2.2.1;have:=h.2.2.2.1;have:=h.2.2.2.2.1;omega⟩
section
variable (n:Nt) (w:World) (adF adI adO adK adN adC:Option Addr) (capF capI capO capK capN capC:Nat)
theorem bJ1 (h0:300<n.places) :
    Calls Tryz.prog 28 #[.agg #[.int .i64 n.places,.slice adF n.first.length capF,.slice adI n.ins.length capI,.slice adO n.outs.length capO,.slice adK n.keeps.length capK,.slice adN n.nums.length capN,.slice adC n.code.length capC]] w fun e w'=>e=.returned (.bool false)/\Below w.heap.size w w':=by
 go_enter Tryz.func28,Tryz.ntmps28
 go_wp2
 go_ret
 exact ⟨rfl,aM w _⟩
theorem bJ0 (h0:n.places≤300) (h1:300<n.first.length) :
    Calls Tryz.prog 28 #[.agg #[.int .i64 n.places,.slice adF n.first.length capF,.slice adI n.ins.length capI,.slice adO n.outs.length capO,.slice adK n.keeps.length capK,.slice adN n.nums.length capN,.slice adC n.code.length capC]] w fun e w'=>e=.returned (.bool false)/\Below w.heap.size w w':=by
 go_enter Tryz.func28,Tryz.ntmps28
 go_wp2
 go_ret
 exact ⟨rfl,aM w _⟩
theorem bI9 (h0:n.places≤300) (h1:n.first.length≤300) (h2:30<n.ins.length) :
    Calls Tryz.prog 28 #[.agg #[.int .i64 n.places,.slice adF n.first.length capF,.slice adI n.ins.length capI,.slice adO n.outs.length capO,.slice adK n.keeps.length capK,.slice adN n.nums.length capN,.slice adC n.code.length capC]] w fun e w'=>e=.returned (.bool false)/\Below w.heap.size w w':=by
 go_enter Tryz.func28,Tryz.ntmps28
 go_wp2
 go_ret
 exact ⟨rfl,aM w _⟩
theorem bI8 (h0:n.places≤300) (h1:n.first.length≤300) (h2:n.ins.length≤30) (h3:30<n.outs.length) :
    Calls Tryz.prog 28 #[.agg #[.int .i64 n.places,.slice adF n.first.length capF,.slice adI n.ins.length capI,.slice adO n.outs.length capO,.slice adK n.keeps.length capK,.slice adN n.nums.length capN,.slice adC n.code.length capC]] w fun e w'=>e=.returned (.bool false)/\Below w.heap.size w w':=by
 go_enter Tryz.func28,Tryz.ntmps28
 go_wp2
 go_ret
 exact ⟨rfl,aM w _⟩
theorem bI7 (h0:n.places≤300) (h1:n.first.length≤300) (h2:n.ins.length≤30) (h3:n.outs.length≤30) (h4:60<n.keeps.length) :
    Calls Tryz.prog 28 #[.agg #[.int .i64 n.places,.slice adF n.first.length capF,.slice adI n.ins.length capI,.slice adO n.outs.length capO,.slice adK n.keeps.length capK,.slice adN n.nums.length capN,.slice adC n.code.length capC]] w fun e w'=>e=.returned (.bool false)/\Below w.heap.size w w':=by
 go_enter Tryz.func28,Tryz.ntmps28
 go_wp2
 go_ret
 exact ⟨rfl,aM w _⟩
theorem bI6 (h0:n.places≤300) (h1:n.first.length≤300) (h2:n.ins.length≤30) (h3:n.outs.length≤30) (h4:n.keeps.length≤60) (h5:60<n.nums.length) :
    Calls Tryz.prog 28 #[.agg #[.int .i64 n.places,.slice adF n.first.length capF,.slice adI n.ins.length capI,.slice adO n.outs.length capO,.slice adK n.keeps.length capK,.slice adN n.nums.length capN,.slice adC n.code.length capC]] w fun e w'=>e=.returned (.bool false)/\Below w.heap.size w w':=by
 go_enter Tryz.func28,Tryz.ntmps28
 go_wp2
 go_ret
 exact ⟨rfl,aM w _⟩
theorem bI5 (h0:n.places≤300) (h1:n.first.length≤300) (h2:n.ins.length≤30) (h3:n.outs.length≤30) (h4:n.keeps.length≤60) (h5:n.nums.length≤60) (h6:120<n.code.length) :
    Calls Tryz.prog 28 #[.agg #[.int .i64 n.places,.slice adF n.first.length capF,.slice adI n.ins.length capI,.slice adO n.outs.length capO,.slice adK n.keeps.length capK,.slice adN n.nums.length capN,.slice adC n.code.length capC]] w fun e w'=>e=.returned (.bool false)/\Below w.heap.size w w':=by
 go_enter Tryz.func28,Tryz.ntmps28
 go_wp2
 go_ret
 have e:decide ((n.code.length:Int)≤120)=false:=by simp;omega
 exact ⟨congrArg (fun b=>Ending.returned (Value.bool b)) e,aM w _⟩
theorem bI4 (h0:n.places≤300) (h1:n.first.length≤300) (h2:n.ins.length≤30) (h3:n.outs.length≤30) (h4:n.keeps.length≤60) (h5:n.nums.length≤60) (h6:n.code.length≤120) :
    Calls Tryz.prog 28 #[.agg #[.int .i64 n.places,.slice adF n.first.length capF,.slice adI n.ins.length capI,.slice adO n.outs.length capO,.slice adK n.keeps.length capK,.slice adN n.nums.length capN,.slice adC n.code.length capC]] w fun e w'=>e=.returned (.bool true)/\Below w.heap.size w w':=by
 go_enter Tryz.func28,Tryz.ntmps28
 go_wp2
 go_ret
 have e:decide ((n.code.length:Int)≤120)=true:=by simp;omega
 exact ⟨congrArg (fun b=>Ending.returned (Value.bool b)) e,aM w _⟩
end
theorem bJ2 (B:Nat) (n:Nt) (w:World) (vF vI vO vK vN vC:Value) (h:gJ B w n vF vI vO vK vN vC) :
    Calls Tryz.prog 28 #[.agg #[.int .i64 n.places,vF,vI,vO,vK,vN,vC]] w fun e w'=>∃b:Bool,e=.returned (.bool b)/\(b=true↔aY8 n)/\Below w.heap.size w w':=by
 obtain ⟨adF,_,_,capF,rfl,-,-⟩:=h.f
 obtain ⟨adI,_,_,capI,rfl,-,-⟩:=h.i
 obtain ⟨adO,_,_,capO,rfl,-,-⟩:=h.o
 obtain ⟨adK,_,_,capK,rfl,-,-⟩:=h.k
 obtain ⟨adN,_,_,capN,rfl,-,-⟩:=h.m
 obtain ⟨adC,_,_,capC,rfl,-,-⟩:=h.c
 unfold aY8
 by_cases h0:¬(n.places≤300)
 ·exact (bJ1 n w adF adI adO adK adN adC capF capI capO capK capN capC  (by omega)).mono fun e w' ⟨he,hb⟩=>⟨false,he,by simp;omega,hb⟩
 replace h0:=Classical.not_not.1 h0
 by_cases h1:¬(n.first.length≤300)
 ·exact (bJ0 n w adF adI adO adK adN adC capF capI capO capK capN capC h0 (by omega)).mono fun e w' ⟨he,hb⟩=>⟨false,he,by simp;omega,hb⟩
 replace h1:=Classical.not_not.1 h1
 by_cases h2:¬(n.ins.length≤30)
 ·exact (bI9 n w adF adI adO adK adN adC capF capI capO capK capN capC h0 h1 (by omega)).mono fun e w' ⟨he,hb⟩=>⟨false,he,by simp;omega,hb⟩
 replace h2:=Classical.not_not.1 h2
 by_cases h3:¬(n.outs.length≤30)
 ·exact (bI8 n w adF adI adO adK adN adC capF capI capO capK capN capC h0 h1 h2 (by omega)).mono fun e w' ⟨he,hb⟩=>⟨false,he,by simp;omega,hb⟩
 replace h3:=Classical.not_not.1 h3
 by_cases h4:¬(n.keeps.length≤60)
 ·exact (bI7 n w adF adI adO adK adN adC capF capI capO capK capN capC h0 h1 h2 h3 (by omega)).mono fun e w' ⟨he,hb⟩=>⟨false,he,by simp;omega,hb⟩
 replace h4:=Classical.not_not.1 h4
 by_cases h5:¬(n.nums.length≤60)
 ·exact (bI6 n w adF adI adO adK adN adC capF capI capO capK capN capC h0 h1 h2 h3 h4 (by omega)).mono fun e w' ⟨he,hb⟩=>⟨false,he,by simp;omega,hb⟩
 replace h5:=Classical.not_not.1 h5
 by_cases h6:¬(n.code.length≤120)
 ·exact (bI5 n w adF adI adO adK adN adC capF capI capO capK capN capC h0 h1 h2 h3 h4 h5 (by omega)).mono fun e w' ⟨he,hb⟩=>⟨false,he,by simp;omega,hb⟩
 replace h6:=Classical.not_not.1 h6
 exact (bI4 n w adF adI adO adK adN adC capF capI capO capK capN capC h0 h1 h2 h3 h4 h5 h6).mono fun e w' ⟨he,hb⟩=>⟨true,he,by simp;omega,hb⟩
end Nx
end
end Go.Proofs.YtcdbhoknhnimcaaGreatDoor
