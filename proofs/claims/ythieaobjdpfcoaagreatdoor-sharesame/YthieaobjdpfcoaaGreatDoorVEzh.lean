import Derived.Test.YthieaobjdpfcoaaGreatDoorVEzf
set_option maxRecDepth 100000
set_option maxHeartbeats 16000000
namespace Go.Proofs.YthieaobjdpfcoaaGreatDoor
open Go.Proofs.Tryz (prog)
section
open Go.RowKit
namespace Nx
section
variable (n:Nt) (bn:Nat) (w:World) (aq bt bx bK cK d9:Option Addr) (dg dv el et ex fd:Nat)
theorem I7 (h:4000<n.places) (c:n.places≤10000000) (k:n.ins.length+n.outs.length+n.keeps.length≤10000000) :
 Calls prog 40 #[.agg #[.int .i64 n.places,.slice aq n.first.length dg,.slice bt n.ins.length dv,.slice bx n.outs.length el,.slice bK n.keeps.length et,.slice cK n.nums.length ex,.slice d9 n.code.length fd],.func (.func 39) #[] #[.pointer (some ⟨bn,0,none⟩)]] w fun e w'=>e=.returned (.int .i64 (4:Int))/\Below w.heap.size w w':=by
 have j:=Ba
 go_enter Tryz.func40,Tryz.ntmps40
 go_wp2
 refine wp_loop_rounds 5 ?_
 rw[rounds_succ]
 go_wp2
 go_ret
 exact ⟨rfl,aE w _⟩
theorem Y5 (c:0≤n.places) (r:n.places≤4000) (j:n.code.length≤4000) (u:n.nums.length≤4000) (s:4000<n.ins.length+n.outs.length+n.keeps.length) (k:n.ins.length+n.outs.length+n.keeps.length≤10000000) :
 Calls prog 40 #[.agg #[.int .i64 n.places,.slice aq n.first.length dg,.slice bt n.ins.length dv,.slice bx n.outs.length el,.slice bK n.keeps.length et,.slice cK n.nums.length ex,.slice d9 n.code.length fd],.func (.func 39) #[] #[.pointer (some ⟨bn,0,none⟩)]] w fun e w'=>e=.returned (.int .i64 (4:Int))/\Below w.heap.size w w':=by
 have h:=Ba;have l:=Fq;have D:=Fp;have y:=Fo
 go_enter Tryz.func40,Tryz.ntmps40
 go_wp2
 refine wp_loop_rounds 5 ?_
 rw[rounds_succ]
 go_wp2
 rw[rounds_succ]
 go_wp2
 rw[rounds_succ]
 go_wp2
 rw[rounds_succ]
 go_wp2
 go_ret
 exact ⟨rfl,aE w _⟩
end
theorem Ni (B:Nat) (n:Nt) (w:World) (y O U I D Q:Value) (h:eJ B w n y O U I D Q) (u:0≤n.places) (Y:n.places≤2000000) (j:n.code.length≤4000) (r:n.nums.length≤4000) (X:n.ins.length+n.outs.length+n.keeps.length≤10000000) (J:¬jB n) :
 Calls prog 21 #[.agg #[.int .i64 n.places,y,O,U,I,D,Q]] w fun e w'=>e=.returned (.iface 86 (.int .i64 4))/\Below w.heap.size w w':=by
 obtain ⟨aq,_,_,dg,rfl,-,-⟩:=h.f
 obtain ⟨bt,_,_,dv,rfl,-,-⟩:=h.i
 obtain ⟨bx,_,_,el,rfl,-,-⟩:=h.o
 obtain ⟨bK,_,_,et,rfl,-,-⟩:=h.k
 obtain ⟨cK,_,_,ex,rfl,-,-⟩:=h.m
 obtain ⟨d9,_,_,fd,rfl,-,-⟩:=h.c
 have l:Calls prog 40 #[.agg #[.int .i64 n.places,.slice aq n.first.length dg,.slice bt n.ins.length dv,.slice bx n.outs.length el,.slice bK n.keeps.length et,.slice cK n.nums.length ex,.slice d9 n.code.length fd],.func (.func 39) #[] #[.pointer (some ⟨w.heap.size,0,none⟩)]] (w.alloc (.cells #[.int .i64 n.places,.slice aq n.first.length dg,.slice bt n.ins.length dv,.slice bx n.outs.length el,.slice bK n.keeps.length et,.slice cK n.nums.length ex,.slice d9 n.code.length fd] 26)) fun e w'=>e=.returned (.int .i64 (4:Int))/\Below (w.alloc (.cells #[.int .i64 n.places,.slice aq n.first.length dg,.slice bt n.ins.length dv,.slice bx n.outs.length el,.slice bK n.keeps.length et,.slice cK n.nums.length ex,.slice d9 n.code.length fd] 26)).heap.size (w.alloc (.cells #[.int .i64 n.places,.slice aq n.first.length dg,.slice bt n.ins.length dv,.slice bx n.outs.length el,.slice bK n.keeps.length et,.slice cK n.nums.length ex,.slice d9 n.code.length fd] 26)) w':=by
  by_cases hpl:4000<n.places
  ·exact I7 n w.heap.size _ aq bt bx bK cK d9 dg dv el et ex fd hpl (by omega) (by omega)
  ·refine Y5 n w.heap.size _ aq bt bx bK cK d9 dg dv el et ex fd u (by omega) j r ?_ X
   exact Classical.byContradiction fun Z=>J ⟨by omega,j,r,by omega⟩
 clear h u Y j r X J
 go_enter Tryz.func21,Tryz.ntmps21
 go_wp2_with (go_at_call 40;refine l.mono ?_;rintro e w1 ⟨rfl,s⟩)
 go_ret
 exact ⟨rfl,iF (aE w _) s⟩
end Nx
end
section
open Go.RowKit Px
namespace Ew
open Px.Em (Kd Vr eQ eR jP Rg cX)
open Nx (Nt Sp eJ)
def Bw (c:fZ):Option Nt:=match Em.uE c with
 | none=>none
 | some n=>if Nx.fY n=(0,-1) then some n else none
theorem pL {n:Nt}(h:Nx.fY n=(0,-1)):Nx.jB n:=by
 unfold Nx.fY at h
 by_cases hw:Nx.dD n=0
 ·unfold Nx.dD at hw
  by_cases h0:n.places<0\/4000<n.places\/4000<n.code.length\/4000<n.nums.length\/4000<n.ins.length+n.outs.length+n.keeps.length
  ·rw[if_pos h0] at hw;omega
  ·exact ⟨by omega,by omega,by omega,by omega⟩
 ·rw[if_neg hw] at h;injection h with h;exact absurd h hw
def aW2 (c:fZ) (w:World) (e:Ending) (w':World):Prop:=Below w.heap.size w w'/\((Bw c=none/\∃t v,e=.returned (.tuple #[.agg ZN,.iface t v]))\/∃(n:Nt) (vF vI vO vK vN vC:Value),Bw c=some n/\e=.returned (.tuple #[.agg #[.int .i64 n.places,vF,vI,vO,vK,vN,vC],.nilIface])/\rE (fun b=>w.heap.size≤b/\b<w'.heap.size) w' n vF vI vO vK vN vC/\wV n/\Nx.fY n=(0,-1))
theorem uU (h:Array Value) (W:World) (c:Nat) (j:Array Value) (v:Value) (hsz:j.size=7) (k:h[2]?.getD undef=.pointer (some ⟨c,0,none⟩)) (r:h[3]?.getD undef=v) (l:W.heap[c]?=some (.cells j 26 (0,0))) :
    (results Tryz.f19 h).run prog W=.ok (.tuple #[.agg j,v]) W:=by
 simp[results,Tryz.results19,k,r,asAddr,xG hsz l]
theorem Pk {w2:World}{c:Nat}{a0 a1 y I a4 a5 J:Value}(hc:w2.heap[c]?=some (.cells ZN 26 (0,0))) {w3:World}(O:w3=((((((w2.setCell ⟨c,0,none⟩ a0).setCell ⟨c,1,none⟩ a1).setCell ⟨c,2,none⟩ y).setCell ⟨c,3,none⟩ I).setCell ⟨c,4,none⟩ a4).setCell ⟨c,5,none⟩ a5).setCell ⟨c,6,none⟩ J) :
    w3.heap[c]?=some (.cells #[a0,a1,y,I,a4,a5,J] 26 (0,0))/\(∀k,k≠c->w3.heap[k]?=w2.heap[k]?)/\(∀B a,Below B a w2->B≤c->Below B a w3)/\w3.heap.size=w2.heap.size:=by
 have U:=cH (l:=[.int .i64 0,.slice none 0 0,.slice none 0 0,.slice none 0 0,.slice none 0 0,.slice none 0 0,.slice none 0 0]) hc 0 a0
 have h1:=cH (l:=[a0,.slice none 0 0,.slice none 0 0,.slice none 0 0,.slice none 0 0,.slice none 0 0,.slice none 0 0]) U 1 a1
 have Q:=cH (l:=[a0,a1,.slice none 0 0,.slice none 0 0,.slice none 0 0,.slice none 0 0,.slice none 0 0]) h1 2 y
 have X:=cH (l:=[a0,a1,y,.slice none 0 0,.slice none 0 0,.slice none 0 0,.slice none 0 0]) Q 3 I
 have e:=cH (l:=[a0,a1,y,I,.slice none 0 0,.slice none 0 0,.slice none 0 0]) X 4 a4
 have h5:=cH (l:=[a0,a1,y,I,a4,.slice none 0 0,.slice none 0 0]) e 5 a5
 have Z:=cH (l:=[a0,a1,y,I,a4,a5,.slice none 0 0]) h5 6 J
 have D:∀(W:World) (j:Nat) (u:Value) (k:Nat),k≠c->(W.setCell ⟨c,j,none⟩ u).heap[k]?=W.heap[k]?:=fun W j u k Y=>Below.heap_setCell _ _ _ _ Y
 have bl:∀(B:Nat) (a W:World) (j:Nat) (u:Value),Below B a W->B≤c->Below B a (W.setCell ⟨c,j,none⟩ u):=fun B a W j u h hB=>h.setCell (p:=⟨c,j,none⟩) hB u
 have sz:∀(W:World) (j:Nat) (u:Value),(W.setCell ⟨c,j,none⟩ u).heap.size=W.heap.size:=fun W j u=>by simp[World.setCell]
 rw[O]
 refine ⟨Z,fun k s=>?_,fun B a hb r=>?_,?_⟩
 ·rw[D _ _ _ _ s,D _ _ _ _ s,D _ _ _ _ s,D _ _ _ _ s,D _ _ _ _ s,D _ _ _ _ s,D _ _ _ _ s]
 ·exact bl _ _ _ _ _ (bl _ _ _ _ _ (bl _ _ _ _ _ (bl _ _ _ _ _ (bl _ _ _ _ _ (bl _ _ _ _ _ (bl _ _ _ _ _ hb r) r) r) r) r) r) r
 ·rw[sz,sz,sz,sz,sz,sz,sz]
section
variable {A:Nat->Prop}{w:World}
theorem aI8 {c:fZ}{S:ByteArray}{a U:Option Addr}{n m n' m':Nat}(hC:gQ A w c (.agg #[.string S,.slice a n m,.slice U n' m'])) (hA:∀x,A x->x<w.heap.size) (af:Xj c) :
 Calls prog 19 #[.agg #[.string S,.slice a n m,.slice U n' m']] w (aW2 c w):=by
 obtain ⟨s,aj⟩:=gQx ((w.alloc (.cells #[.string S,.slice a n m,.slice U n' m'] 47)).alloc (.cells ZN 26))
 obtain ⟨U1,ac⟩:=gQx (w.alloc (.cells #[.string S,.slice a n m,.slice U n' m'] 47))
 have s1:U1.heap.size=w.heap.size+1:=by rw[ac];simp
 have I:s=U1.alloc (.cells ZN 26):=by rw[ac];exact aj
 have s0:s.heap.size=w.heap.size+2:=by rw[I];simp[s1]
 have b1:Below w.heap.size w U1:=by rw[ac];exact aL _ _
 have b2:Below U1.heap.size U1 s:=by rw[I];exact aL _ _
 have x0:s.heap[w.heap.size]?=some (.cells #[.string S,.slice a n m,.slice U n' m'] 47 (0,0)):=aD b2 (by rw[ac];exact aX w _)
 have x1:s.heap[w.heap.size+1]?=some (.cells ZN 26 (0,0)):=by rw[<-s1,I];exact aX U1 _
 have ak:Below w.heap.size w s:=aQ b1 b2
 have cB:∀W,Below w.heap.size w W->gQ A W c (.agg #[.string S,.slice a n m,.slice U n' m']):=fun W hb=>by
  obtain ⟨p1,p2,p3,p4,p5,p6,p7,p8,p9⟩:=hC
  have kp:bB A A w W:=fun x hx hl=>⟨hx,hb.block x hl⟩
  exact ⟨p1,p2,p3,p4,p5,p6,p7,p8.carry kp,p9.carry kp (aM.carry kp 6)⟩
 have an:Calls prog 37 #[.agg #[.string S,.slice a n m,.slice U n' m']] s fun e D=>e=.returned .nilIface/\Hid (Below s.heap.size s D):=(iU (cB s ak) af.run.nm).mono fun e D h=>by
  rw[af.run.ok] at h
  obtain ⟨hb,⟨_,rfl⟩|⟨_,h,_⟩|⟨_,_,_,h,_⟩⟩:=h
  ·exact ⟨rfl,hb⟩
  ·simp at h
  ·simp at h
 have HC:Hid ((∀W,Below w.heap.size w W->gQ A W c (.agg #[.string S,.slice a n m,.slice U n' m']))/\(∀x,A x->x<w.heap.size)/\Xj c):=⟨cB,hA,af⟩
 have HB:Hid (Below w.heap.size w s/\s.heap.size=w.heap.size+2/\s.heap[w.heap.size]?=some (.cells #[.string S,.slice a n m,.slice U n' m'] 47 (0,0))/\s.heap[w.heap.size+1]?=some (.cells ZN 26 (0,0))):=⟨ak,s0,x0,x1⟩
 have y0:=aF x0 0 (u:=.string S) rfl
 have y1:=aF x0 1 (u:=.slice a n m) rfl
 have y2:=aF x0 2 (u:=.slice U n' m') rfl
 clear hC hA af cB s1 I ac s0 b1 b2 x0 x1 ak
 go_enter Tryz.func19,Tryz.ntmps19
 go_upto_region 1 with fail
 rw[show (w.alloc (.cells #[.string S,.slice a n m,.slice U n' m'] 47)).alloc (.cells #[.int .i64 0,.slice none 0 0,.slice none 0 0,.slice none 0 0,.slice none 0 0,.slice none 0 0,.slice none 0 0] 26)=s from aj.symm]
 clear aj
 go_upto_region 4 with (go_at_call 37;refine an.mono ?_;rintro e w1 ⟨rfl,h1⟩)
 have ag:Below w.heap.size w w1:=aQ HB.out.1 h1.out
 have x1:=aD h1.out HB.out.2.2.2
 have y0:=aN h1.out y0
 have y1:=aN h1.out y1
 have y2:=aN h1.out y2
 have ah:=aG7 (HC.out.1 w1 ag) (fun x hx=>aO5 (HC.out.2.1 x hx) ag.size) HC.out.2.2
 have Z:Hid (Below w.heap.size w w1/\w.heap.size+2≤w1.heap.size/\w1.heap[w.heap.size+1]?=some (.cells ZN 26 (0,0))):=⟨ag,by have:=h1.out.size;have:=HB.out.2.1;omega,x1⟩
 clear an h1 ag x1
 cases h1:Em.uE c with
 | none=>
  have H1:Hid (Em.uE c=none):=h1
  clear h1
  have j:Calls prog 38 #[.agg #[.string S,.slice a n m,.slice U n' m']] w1 fun e D=>e=.returned (.tuple #[.agg ZN,.iface 86 (.int .i64 4)])/\Hid (Below w1.heap.size w1 D):=ah.mono fun e D h=>by
   rw[H1.out] at h
   obtain ⟨hb,⟨_,rfl⟩|⟨_,_,_,_,_,_,_,h,_⟩⟩:=h
   ·exact ⟨rfl,hb⟩
   ·simp at h
  clear ah
  unfold ZN at j
  go_upto_region 5 with (go_at_call 38;refine j.mono ?_;rintro e w2 ⟨rfl,h2⟩)
  obtain ⟨V,hV⟩:=gQx (w2.alloc (.cells #[.int .i64 0,.slice none 0 0,.slice none 0 0,.slice none 0 0,.slice none 0 0,.slice none 0 0,.slice none 0 0] 26))
  have l:Below w2.heap.size w2 V:=by rw[hV];exact aL _ _
  have u1:=aD l (aD h2.out Z.out.2.2)
  have r:Hid (Below w.heap.size w V/\V.heap[w.heap.size+1]?=some (.cells ZN 26 (0,0))):=⟨aQ (aQ Z.out.1 h2.out) l,u1⟩
  obtain ⟨r0,r1,r2,r3,r4,r5,r6⟩:=gJ u1
  have rf:∀o,V.frozen? ⟨w.heap.size+1,o,none⟩=false:=fun o=>aG u1 o
  rw[<-hV]
  clear hV l h2 j u1
  go_wp2_with fail
  obtain ⟨X,hX⟩:=gQx (((((((V.setCell ⟨w.heap.size+1,0,none⟩ (.int .i64 0)).setCell ⟨w.heap.size+1,1,none⟩ (.slice none 0 0)).setCell ⟨w.heap.size+1,2,none⟩ (.slice none 0 0)).setCell ⟨w.heap.size+1,3,none⟩ (.slice none 0 0)).setCell ⟨w.heap.size+1,4,none⟩ (.slice none 0 0)).setCell ⟨w.heap.size+1,5,none⟩ (.slice none 0 0)).setCell ⟨w.heap.size+1,6,none⟩ (.slice none 0 0))
  rw[<-hX]
  obtain ⟨z0,z1,z2,z3⟩:=Pk r.out.2 hX
  clear hX
  refine aY9 (uU _ _ (w.heap.size+1) _ _ rfl rfl rfl z0) rfl ?_
  exact ⟨z2 _ _ r.out.1 (by omega),.inl ⟨by unfold Bw;rw[H1.out],_,_,rfl⟩⟩
 | some N=>
  have H1:Hid (Em.uE c=some N):=h1
  clear h1
  have j:Calls prog 38 #[.agg #[.string S,.slice a n m,.slice U n' m']] w1 fun e D=>∃e1 l1 o1 Y l2 o2 e3 l3 o3 e4 l4 o4 J l5 Q e6 l6 O,e=.returned (.tuple #[.agg #[.int .i64 N.places,.slice e1 l1 o1,.slice Y l2 o2,.slice e3 l3 o3,.slice e4 l4 o4,.slice J l5 Q,.slice e6 l6 O],.nilIface])/\Hid (Below w1.heap.size w1 D/\rE (fun b=>w1.heap.size≤b/\b<D.heap.size) D N (.slice e1 l1 o1) (.slice Y l2 o2) (.slice e3 l3 o3) (.slice e4 l4 o4) (.slice J l5 Q) (.slice e6 l6 O)/\wV N):=ah.mono fun e D h=>by
   rw[H1.out] at h
   obtain ⟨hb,⟨h,_⟩|⟨nn,vF,vI,vO,vK,vN,vC,h,rfl,hN,hf⟩⟩:=h
   ·simp at h
   ·injection h with h
    subst h
    obtain ⟨e1,_,_,o1,rfl,_⟩:=id hN.f
    obtain ⟨Y,_,_,o2,rfl,_⟩:=id hN.i
    obtain ⟨e3,_,_,o3,rfl,_⟩:=id hN.o
    obtain ⟨e4,_,_,o4,rfl,_⟩:=id hN.k
    obtain ⟨J,_,_,Q,rfl,_⟩:=id hN.m
    obtain ⟨e6,_,_,O,rfl,_⟩:=id hN.c
    exact ⟨_,_,_,_,_,_,_,_,_,_,_,_,_,_,_,_,_,_,rfl,hb,hN,hf⟩
  obtain ⟨pl,ai⟩:=gQx N.places
  rw[<-ai] at j
  have al:Hid (pl=N.places):=ai
  clear ah ai
  go_upto_region 5 with (go_at_call 38;refine j.mono ?_;rintro e w2 ⟨e1,l1,o1,Y,l2,o2,e3,l3,o3,e4,l4,o4,J,l5,Q,e6,l6,O,rfl,h2⟩)
  obtain ⟨q5,ad⟩:=gQx w2.heap.size
  obtain ⟨V,hV⟩:=gQx (w2.alloc (.cells #[.int .i64 pl,.slice e1 l1 o1,.slice Y l2 o2,.slice e3 l3 o3,.slice e4 l4 o4,.slice J l5 Q,.slice e6 l6 O] 26))
  have l:Below w2.heap.size w2 V:=by rw[hV];exact aL _ _
  have ae:V.heap[q5]?=some (.cells #[.int .i64 pl,.slice e1 l1 o1,.slice Y l2 o2,.slice e3 l3 o3,.slice e4 l4 o4,.slice J l5 Q,.slice e6 l6 O] 26 (0,0)):=by rw[hV,ad];exact aX w2 _
  have ab:rE (fun b=>w1.heap.size≤b/\b<V.heap.size) V N (.slice e1 l1 o1) (.slice Y l2 o2) (.slice e3 l3 o3) (.slice e4 l4 o4) (.slice J l5 Q) (.slice e6 l6 O):=h2.out.2.1.carry fun b hb hl=>⟨⟨hb.1,aO5 hb.2 l.size⟩,l.block b hl⟩
  have u1:=aD l (aD h2.out.1 Z.out.2.2)
  have r:Hid (Below w.heap.size w V/\V.heap[w.heap.size+1]?=some (.cells ZN 26 (0,0))/\wV N/\rE (fun b=>w1.heap.size≤b/\b<V.heap.size) V N (.slice e1 l1 o1) (.slice Y l2 o2) (.slice e3 l3 o3) (.slice e4 l4 o4) (.slice J l5 Q) (.slice e6 l6 O)/\V.heap[q5]?=some (.cells #[.int .i64 pl,.slice e1 l1 o1,.slice Y l2 o2,.slice e3 l3 o3,.slice e4 l4 o4,.slice J l5 Q,.slice e6 l6 O] 26 (0,0))):=⟨aQ (aQ Z.out.1 h2.out.1) l,u1,h2.out.2.2,ab,ae⟩
  obtain ⟨p0,p1,p2,p3,p4,p5,p6⟩:=gJ ae
  by_cases h2':Nx.fY N=(0,-1)
  ·have H2:Hid (Nx.fY N=(0,-1)):=h2'
   clear h2'
   have y:=(show Calls prog 21 #[.agg #[.int .i64 pl,.slice e1 l1 o1,.slice Y l2 o2,.slice e3 l3 o3,.slice e4 l4 o4,.slice J l5 Q,.slice e6 l6 O]] V fun e D=>e=.returned .nilIface/\Hid (Below V.heap.size V D) from by
    have hv:=ab.netV (B:=V.heap.size) fun b hb=>hb.2
    rw[al.out]
    refine (Nx.iU V.heap.size N V _ _ _ _ _ _ hv (aO4 _) (pL H2.out)).mono fun e D h=>?_
    obtain ⟨v,rfl,he,hb⟩:=h
    rw[H2.out] at he
    rcases he with ⟨_,_,rfl⟩|⟨c1,_,_⟩|⟨c1,_⟩
    ·exact ⟨rfl,hb⟩
    ·exact absurd rfl c1
    ·exact absurd rfl c1)
   rw[<-hV,<-ad]
   clear hV ad l ae ab h2 j u1
   go_upto_region 9 with (go_at_call 21;refine y.mono ?_;rintro e w3 ⟨rfl,h3⟩)
   have u1:=aD h3.out r.out.2.1
   have am:=aD h3.out r.out.2.2.2.2
   have aa:Hid (Below w.heap.size w w3/\w3.heap[w.heap.size+1]?=some (.cells ZN 26 (0,0))/\rE (fun b=>w1.heap.size≤b/\b<w3.heap.size) w3 N (.slice e1 l1 o1) (.slice Y l2 o2) (.slice e3 l3 o3) (.slice e4 l4 o4) (.slice J l5 Q) (.slice e6 l6 O)):=⟨aQ r.out.1 h3.out,u1,r.out.2.2.2.1.carry fun b hb hl=>⟨⟨hb.1,aO5 hb.2 h3.out.size⟩,h3.out.block b hl⟩⟩
   obtain ⟨r0,r1,r2,r3,r4,r5,r6⟩:=gJ u1
   have rf:∀o,w3.frozen? ⟨w.heap.size+1,o,none⟩=false:=fun o=>aG u1 o
   obtain ⟨p0,p1,p2,p3,p4,p5,p6⟩:=gJ am
   clear y h3 u1 am
   go_wp2_with fail
   obtain ⟨X,hX⟩:=gQx (((((((w3.setCell ⟨w.heap.size+1,0,none⟩ (.int .i64 pl)).setCell ⟨w.heap.size+1,1,none⟩ (.slice e1 l1 o1)).setCell ⟨w.heap.size+1,2,none⟩ (.slice Y l2 o2)).setCell ⟨w.heap.size+1,3,none⟩ (.slice e3 l3 o3)).setCell ⟨w.heap.size+1,4,none⟩ (.slice e4 l4 o4)).setCell ⟨w.heap.size+1,5,none⟩ (.slice J l5 Q)).setCell ⟨w.heap.size+1,6,none⟩ (.slice e6 l6 O))
   rw[<-hX]
   obtain ⟨z0,z1,z2,z3⟩:=Pk aa.out.2.1 hX
   clear hX
   refine aY9 (uU _ _ (w.heap.size+1) _ _ rfl rfl rfl z0) rfl ?_
   refine ⟨z2 _ _ aa.out.1 (by omega),.inr ⟨N,_,_,_,_,_,_,by unfold Bw;rw[H1.out];exact if_pos H2.out,by rw[<-al.out];rfl,aa.out.2.2.carry fun b hb hl=>⟨⟨?_,by rw[z3];exact hb.2⟩,z1 b ?_⟩,r.out.2.2.1,H2.out⟩⟩
   ·have:=Z.out.2.1;omega
   ·have:=Z.out.2.1;omega
  ·have H2:Hid (Nx.fY N≠(0,-1)):=h2'
   clear h2'
   have y:=(show Calls prog 21 #[.agg #[.int .i64 pl,.slice e1 l1 o1,.slice Y l2 o2,.slice e3 l3 o3,.slice e4 l4 o4,.slice J l5 Q,.slice e6 l6 O]] V fun e D=>∃t v,e=.returned (.iface t v)/\Hid (Below V.heap.size V D) from by
    have hv:=ab.netV (B:=V.heap.size) fun b hb=>hb.2
    have hf:=h2.out.2.2
    rw[al.out]
    by_cases hs:Nx.jB N
    ·refine (Nx.iU V.heap.size N V _ _ _ _ _ _ hv (aO4 _) hs).mono fun e D h=>?_
     obtain ⟨v,rfl,he,hb⟩:=h
     rcases he with ⟨c1,c2,rfl⟩|⟨_,_,rfl⟩|⟨_,g,q,_,_,rfl,_⟩
     ·exact absurd (Prod.ext c1 c2) H2.out
     ·exact ⟨_,_,rfl,hb⟩
     ·exact ⟨_,_,rfl,hb⟩
    ·refine (Nx.Ni V.heap.size N V _ _ _ _ _ _ hv (by rw[hf.len];omega) (by rw[hf.len];have:=hf.few;omega) hf.code (by have:=hf.nums;have:=hf.code;omega) (by have:=hf.few;have:=hf.ins;have:=hf.outs;have:=hf.keeps;omega) hs).mono fun e D h=>?_
     obtain ⟨rfl,hb⟩:=h
     exact ⟨_,_,rfl,hb⟩)
   rw[<-hV,<-ad]
   clear hV ad l ae ab h2 j u1
   go_upto_region 7 with (go_at_call 21;refine y.mono ?_;rintro e w3 ⟨tt,tv,rfl,h3⟩)
   have u1:=aD h3.out r.out.2.1
   have aa:Hid (Below w.heap.size w w3/\w3.heap[w.heap.size+1]?=some (.cells ZN 26 (0,0))):=⟨aQ r.out.1 h3.out,u1⟩
   obtain ⟨r0,r1,r2,r3,r4,r5,r6⟩:=gJ u1
   have rf:∀o,w3.frozen? ⟨w.heap.size+1,o,none⟩=false:=fun o=>aG u1 o
   clear y h3 u1 p0 p1 p2 p3 p4 p5 p6
   go_wp2_with fail
   obtain ⟨X,hX⟩:=gQx (((((((w3.setCell ⟨w.heap.size+1,0,none⟩ (.int .i64 0)).setCell ⟨w.heap.size+1,1,none⟩ (.slice none 0 0)).setCell ⟨w.heap.size+1,2,none⟩ (.slice none 0 0)).setCell ⟨w.heap.size+1,3,none⟩ (.slice none 0 0)).setCell ⟨w.heap.size+1,4,none⟩ (.slice none 0 0)).setCell ⟨w.heap.size+1,5,none⟩ (.slice none 0 0)).setCell ⟨w.heap.size+1,6,none⟩ (.slice none 0 0))
   rw[<-hX]
   obtain ⟨z0,z1,z2,z3⟩:=Pk aa.out.2 hX
   clear hX
   refine aY9 (uU _ _ (w.heap.size+1) _ _ rfl rfl rfl z0) rfl ?_
   exact ⟨z2 _ _ aa.out.1 (by omega),.inl ⟨by unfold Bw;rw[H1.out];exact if_neg H2.out,_,_,rfl⟩⟩
end
end Ew
end
section
open Go.RowKit Px
namespace Kx
theorem Wo {X:World}{fb T:Nat}{x y z:Value}(h:X.heap[fb]?=some (.cells #[x,y,z] T (0,0))) (a b c:Value):(((X.setCell ⟨fb,0,none⟩ a).setCell ⟨fb,1,none⟩ b).setCell ⟨fb,2,none⟩ c).heap[fb]?=some (.cells #[a,b,c] T (0,0)):=
 cH (l:=[a,b,z]) (cH (l:=[a,y,z]) (cH (l:=[x,y,z]) h 0 a) 1 b) 2 c
theorem oM {w X:World}{fb:Nat}(h:Below w.heap.size w X) (hb:w.heap.size≤fb) (a b c:Value):Below w.heap.size w (((X.setCell ⟨fb,0,none⟩ a).setCell ⟨fb,1,none⟩ b).setCell ⟨fb,2,none⟩ c):=
 ((h.setCell hb _).setCell hb _).setCell hb _
theorem Cj {s:ByteArray}{l:List Lx.fQ}{c:fZ}{w:World}(hs:s.size≤1500) (hv:rP w) (af:Lx.Ok (bs s) l) (ag:dJ (fin s l)=.ok c) :
 Calls prog 18 #[.string s] w fun e w'=>(gI c=none/\∃S a n m a' n' m',e=.returned (.tuple #[.agg #[.string S,.slice a n m,.slice a' n' m'],.bool true])/\Hid (gQ (fun b=>w.heap.size<b) w' c (.agg #[.string S,.slice a n m,.slice a' n' m'])/\Below w.heap.size w w')) \/
     (gI c≠none/\e=.returned (.tuple #[.agg #[.string ⟨#[]⟩,.slice none 0 0,.slice none 0 0],.bool false])/\Hid (Below w.heap.size w w')):=by
 have hN:=O6 (xN af) ag
 obtain ⟨Y,O⟩:=gQx (w.alloc (.cells #[.string ⟨#[]⟩,.slice none 0 0,.slice none 0 0] 47))
 have U:Below w.heap.size w Y:=by rw[O];exact aL w _
 have hp:Calls prog 36 #[.string s] Y fun e w'=>∃S a n m a' n' m',e=.returned (.tuple #[.agg #[.string S,.slice a n m,.slice a' n' m'],.nilIface])/\Hid (gQ (fun b=>w.heap.size<b) w' c (.agg #[.string S,.slice a n m,.slice a' n' m'])/\Below Y.heap.size Y w'):=
  (Ql s l c Y (by omega) (hv.up U).big (hv.up U).tabs (hv.up U).marks af ag).mono fun e w' ⟨v,k,hC,hb⟩=>by
   obtain ⟨a,n,m,a',n',m',rfl,Q,h2⟩:=hC
   have kp:bB (Ge Y.heap.size) (fun b=>w.heap.size<b) w' w':=fun b aa _=>⟨by have h3:Y.heap.size≤b:=aa;rw[O] at h3;simp at h3;omega,rfl⟩
   exact ⟨_,a,n,m,a',n',m',k,⟨a,n,m,a',n',m',rfl,Q.carry kp,h2.carry kp (aM.carry kp 6)⟩,hb⟩
 have ac:Hid (_/\Y.heap[w.heap.size]?=some (.cells #[.string ⟨#[]⟩,.slice none 0 0,.slice none 0 0] 47 (0,0))):=⟨U,by rw[O];exact aX _ _⟩
 have aj:¬(1500:Int)<(s.size:Int):=by omega
 have HN:Hid _:=hN
 rw[O] at hp ac
 clear hN hv af ag O U
 go_enter Tryz.func18,Tryz.ntmps18
 go_wp2_with fail
 refine hp.mono ?_
 rintro e w1 ⟨S,a,n,m,a',n',m',rfl,Q⟩
 obtain ⟨I,J⟩:=gQx (w1.alloc (.cells #[.string S,.slice a n m,.slice a' n' m'] 47))
 have ab:Below w1.heap.size w1 I:=by rw[J];exact aL w1 _
 have y:Hid (gQ (fun b=>w.heap.size<b) I c (.agg #[.string S,.slice a n m,.slice a' n' m'])/\Below w.heap.size w I/\I.heap[w.heap.size]?=some (.cells #[.string ⟨#[]⟩,.slice none 0 0,.slice none 0 0] 47 (0,0))/\I.heap[w1.heap.size]?=some (.cells #[.string S,.slice a n m,.slice a' n' m'] 47 (0,0))):=
  ⟨Ix Q.out.1 ab,aQ ac.out.1 (aQ Q.out.2 ab),aD (aQ Q.out.2 ab) ac.out.2,by rw[J];exact aX _ _⟩
 have j:=iU y.out.1 HN.out
 have x0:=aF y.out.2.2.2 0 (u:=.string S) rfl
 have x1:=aF y.out.2.2.2 1 (u:=.slice a n m) rfl
 have x2:=aF y.out.2.2.2 2 (u:=.slice a' n' m') rfl
 obtain ⟨o,Z⟩:∃o,Hid (gI c=o):=⟨_,rfl⟩
 rw[Z.out] at j
 rw[J] at j x0 x1 x2
 have ah:Hid _:=J
 clear hp ab J Q
 unfold Vh at j
 have ae:Hid (∀w',Below I.heap.size I w'->gQ (fun b=>w.heap.size<b) w' c (.agg #[.string S,.slice a n m,.slice a' n' m'])/\Below w.heap.size w w'/\w'.heap[w.heap.size]?=some (.cells #[.string ⟨#[]⟩,.slice none 0 0,.slice none 0 0] 47 (0,0))/\w'.heap[w1.heap.size]?=some (.cells #[.string S,.slice a n m,.slice a' n' m'] 47 (0,0))):=fun w' hb=>⟨Ix y.out.1 hb,aQ y.out.2.1 hb,aD hb y.out.2.2.1,aD hb y.out.2.2.2⟩
 go_wp2_with fail
 cases o with
 | none=>
  have D:Calls prog 37 #[.agg #[.string S,.slice a n m,.slice a' n' m']] (w1.alloc (.cells #[.string S,.slice a n m,.slice a' n' m'] 47)) fun e w'=>e=.returned .nilIface/\Hid (Below I.heap.size I w'):=by
   rw[<-ah.out] at j ⊢
   exact j.mono fun e w' ⟨hb,Z⟩=>by
    rcases Z with ⟨_,k⟩|⟨_,k,_⟩|⟨_,_,_,k,_⟩
    ·exact ⟨k,hb⟩
    ·simp at k
    ·simp at k
  clear j x0 x1 x2
  refine D.mono ?_
  rintro e w2 ⟨rfl,X⟩
  obtain ⟨k1,k2,h,k4⟩:=ae.out w2 X.out
  have x0:=aF k4 0 (u:=.string S) rfl
  have x1:=aF k4 1 (u:=.slice a n m) rfl
  have x2:=aF k4 2 (u:=.slice a' n' m') rfl
  have f0:=aF h 0 (u:=.string ⟨#[]⟩) rfl
  have f1:=aF h 1 (u:=.slice none 0 0) rfl
  have f2:=aF h 2 (u:=.slice none 0 0) rfl
  have z0:=aG h 0
  have z1:=aG h 1
  have z2:=aG h 2
  have r:Hid (_/\_/\_):=⟨k2,h,k1⟩
  clear k1 k2 h k4 D
  go_wp2_with fail
  refine aY9 (pN _ _ w.heap.size #[.string S,.slice a n m,.slice a' n' m'] rfl rfl (Wo r.out.2.1 _ _ _)) rfl ?_
  refine .inl ⟨Z.out,S,a,n,m,a',n',m',rfl,?_,oM r.out.1 (aO4 _) _ _ _⟩
  obtain ⟨a2,n2,m2,a3,n3,m3,e,q1,q2⟩:=r.out.2.2
  have kp:bB (fun b=>w.heap.size<b) (fun b=>w.heap.size<b) w2 (((w2.setCell ⟨w.heap.size,0,none⟩ (.string S)).setCell ⟨w.heap.size,1,none⟩ (.slice a n m)).setCell ⟨w.heap.size,2,none⟩ (.slice a' n' m')):=fun b aa _=>⟨aa,by
   have ad:b≠w.heap.size:=by have:w.heap.size<b:=aa;omega
   rw[Below.heap_setCell _ _ _ _ ad,Below.heap_setCell _ _ _ _ ad,Below.heap_setCell _ _ _ _ ad]⟩
  exact ⟨a2,n2,m2,a3,n3,m3,e,q1.carry kp,q2.carry kp (aM.carry kp 6)⟩
 | some x=>
  obtain ⟨cc,pl⟩:=x
  have ai:Hid (gI c≠none):=by rw[Hid,Z.out];simp
  cases pl with
  | none=>
   have D:Calls prog 37 #[.agg #[.string S,.slice a n m,.slice a' n' m']] (w1.alloc (.cells #[.string S,.slice a n m,.slice a' n' m'] 47)) fun e w'=>e=.returned (.iface 86 (.int .i64 ((cc:Nat):Int)))/\Hid (Below I.heap.size I w'):=by
    rw[<-ah.out] at j ⊢
    exact j.mono fun e w' ⟨hb,Z⟩=>by
     rcases Z with ⟨k,_⟩|⟨c',k,Q⟩|⟨_,_,_,k,_⟩
     ·simp at k
     ·simp at k
      subst k
      exact ⟨Q,hb⟩
     ·simp at k
   clear j x0 x1 x2
   refine D.mono ?_
   rintro e w2 ⟨rfl,X⟩
   obtain ⟨k1,k2,h,k4⟩:=ae.out w2 X.out
   have f0:=aF h 0 (u:=.string ⟨#[]⟩) rfl
   have f1:=aF h 1 (u:=.slice none 0 0) rfl
   have f2:=aF h 2 (u:=.slice none 0 0) rfl
   have z0:=aG h 0
   have z1:=aG h 1
   have z2:=aG h 2
   have r:Hid (_/\_):=⟨k2,h⟩
   clear k1 k2 h k4 D
   go_wp2_with fail
   refine aY9 (pN _ _ w.heap.size #[.string ⟨#[]⟩,.slice none 0 0,.slice none 0 0] rfl rfl (Wo r.out.2 _ _ _)) rfl ?_
   exact .inr ⟨ai.out,rfl,oM r.out.1 (aO4 _) _ _ _⟩
  | some p=>
   have D:Calls prog 37 #[.agg #[.string S,.slice a n m,.slice a' n' m']] (w1.alloc (.cells #[.string S,.slice a n m,.slice a' n' m'] 47)) fun e w'=>∃g,e=.returned (.iface 89 (.pointer (some ⟨g,0,none⟩)))/\Hid (Below I.heap.size I w'):=by
    rw[<-ah.out] at j ⊢
    exact j.mono fun e w' ⟨hb,Z⟩=>by
     rcases Z with ⟨k,_⟩|⟨c',k,Q⟩|⟨c',p',g,k,Q,_⟩
     ·simp at k
     ·simp at k
     ·exact ⟨g,Q,hb⟩
   clear j x0 x1 x2
   refine D.mono ?_
   rintro e w2 ⟨ge,rfl,X⟩
   obtain ⟨k1,k2,h,k4⟩:=ae.out w2 X.out
   have f0:=aF h 0 (u:=.string ⟨#[]⟩) rfl
   have f1:=aF h 1 (u:=.slice none 0 0) rfl
   have f2:=aF h 2 (u:=.slice none 0 0) rfl
   have z0:=aG h 0
   have z1:=aG h 1
   have z2:=aG h 2
   have r:Hid (_/\_):=⟨k2,h⟩
   clear k1 k2 h k4 D
   go_wp2_with fail
   refine aY9 (pN _ _ w.heap.size #[.string ⟨#[]⟩,.slice none 0 0,.slice none 0 0] rfl rfl (Wo r.out.2 _ _ _)) rfl ?_
   exact .inr ⟨ai.out,rfl,oM r.out.1 (aO4 _) _ _ _⟩
theorem Gn {s:ByteArray}{w:World}(X:rP w) (y:s.size≤1500->∀l c,¬(Lx.Ok (bs s) l/\dJ (fin s l)=.ok c)) :
 Calls prog 18 #[.string s] w fun e w'=>e=.returned (.tuple #[.agg #[.string ⟨#[]⟩,.slice none 0 0,.slice none 0 0],.bool false])/\Hid (Below w.heap.size w w'):=by
 have j:(w.alloc (.cells #[.string ⟨#[]⟩,.slice none 0 0,.slice none 0 0] 47)).heap[w.heap.size]?=some (.cells #[.string ⟨#[]⟩,.slice none 0 0,.slice none 0 0] 47 (0,0)):=aX _ _
 have Z:=aF j 0 (u:=.string ⟨#[]⟩) rfl
 have f1:=aF j 1 (u:=.slice none 0 0) rfl
 have f2:=aF j 2 (u:=.slice none 0 0) rfl
 have z0:=aG j 0
 have z1:=aG j 1
 have z2:=aG j 2
 have O:Hid _:=j
 by_cases hs:s.size≤1500
 ·have U:¬(1500:Int)<(s.size:Int):=by omega
  have D:Below w.heap.size w (w.alloc (.cells #[.string ⟨#[]⟩,.slice none 0 0,.slice none 0 0] 47)):=aL w _
  have Y:Calls prog 36 #[.string s] (w.alloc (.cells #[.string ⟨#[]⟩,.slice none 0 0,.slice none 0 0] 47)) fun e w'=>∃g,e=.returned (.tuple #[.agg #[.string ⟨#[]⟩,.slice none 0 0,.slice none 0 0],.iface 89 (.pointer (some ⟨g,0,none⟩))])/\Hid (Below (w.alloc (.cells #[.string ⟨#[]⟩,.slice none 0 0,.slice none 0 0] 47)).heap.size (w.alloc (.cells #[.string ⟨#[]⟩,.slice none 0 0,.slice none 0 0] 47)) w'):=by
   have r:=X.up D
   by_cases hl:∃l,Lx.Ok (bs s) l
   ·obtain ⟨l,I⟩:=hl
    cases hch:dJ (fin s l) with
    | ok c=>exact absurd ⟨I,hch⟩ (y hs l c)
    | error f=>exact (Ky s l f _ (by omega) r.big r.tabs r.marks I hch).mono fun e w' ⟨g,he,_,hb⟩=>⟨g,he,hb⟩
   ·exact (Kz s _ (by omega) r.marks (fun l h=>hl ⟨l,h⟩)).mono fun e w' ⟨_,_,g,he,_,_,hb⟩=>⟨g,he,hb⟩
  clear X y D j Z f1 f2 z0 z1 z2
  go_enter Tryz.func18,Tryz.ntmps18
  go_wp2_with fail
  refine Y.mono ?_
  rintro e w1 ⟨g,rfl,J⟩
  have k:(w1.alloc (.cells #[.string ⟨#[]⟩,.slice none 0 0,.slice none 0 0] 47)).heap[w.heap.size]?=some (.cells #[.string ⟨#[]⟩,.slice none 0 0,.slice none 0 0] 47 (0,0)):=eB (aD J.out O.out)
  have Z:=aF k 0 (u:=.string ⟨#[]⟩) rfl
  have f1:=aF k 1 (u:=.slice none 0 0) rfl
  have f2:=aF k 2 (u:=.slice none 0 0) rfl
  have z0:=aG k 0
  have z1:=aG k 1
  have z2:=aG k 2
  have Q:Hid _:=k
  clear k Y
  go_wp2_with fail
  refine aY9 (pN _ _ w.heap.size #[.string ⟨#[]⟩,.slice none 0 0,.slice none 0 0] rfl rfl (Wo Q.out _ _ _)) rfl ?_
  exact ⟨rfl,oM (aQ (aQ (aL _ _) J.out) (aL _ _)) (aO4 _) _ _ _⟩
 ·have U:(1500:Int)<(s.size:Int):=by omega
  clear X y hs j
  go_enter Tryz.func18,Tryz.ntmps18
  go_wp2_with fail
  refine aY9 (pN _ _ w.heap.size #[.string ⟨#[]⟩,.slice none 0 0,.slice none 0 0] rfl rfl O.out) rfl ?_
  exact ⟨rfl,aL _ _⟩
end Kx
end
section
open Go.RowKit Px
namespace Ew
open Nx (Nt Sp eJ Ny)
structure Zx (A:Nat->Prop) (w:World) (n:Nt) (vF vI vO vK vN vC:Value):Prop where
 v:rE A w n vF vI vO vK vN vC
 s:Nx.jB n
 ok:Nx.fY n=(0,-1)
 nf:∀x∈n.first,jF x
 nn:∀x∈n.nums,jF x
theorem Xh {B:Nat}{w:World}{n:Nt}{vF vI vO vK vN vC:Value}(h:eJ B w n vF vI vO vK vN vC):rE (fun b=>b<B) w n vF vI vO vK vN vC:=⟨h.f,h.i,h.o,h.k,h.m,h.c⟩
theorem Hy {B:Nat}{w w':World}{n:Nt}{vF vI vO vK vN vC:Value}(h:eJ B w n vF vI vO vK vN vC) (hB:B≤w.heap.size) (hb:Below w.heap.size w w'):eJ w'.heap.size w' n vF vI vO vK vN vC:=h.below (hb.mono hB) (aO6 hB hb.size)
def Ze (B:Nat) (w:World) (e:Ending) (w':World):Prop:=∃(n:Nt) (e1 e2 e3 e4 e5 e6:Option Addr) (l1 o1 l2 o2 l3 o3 l4 o4 l5 o5 l6 o6:Nat) (b:Bool),e=.returned (.tuple #[.agg #[.int .i64 n.places,.slice e1 l1 o1,.slice e2 l2 o2,.slice e3 l3 o3,.slice e4 l4 o4,.slice e5 l5 o5,.slice e6 l6 o6],.bool b])/\Hid (Below w.heap.size w w'/\(b=true->Zx (fun x=>x<B\/w.heap.size≤x/\x<w'.heap.size) w' n (.slice e1 l1 o1) (.slice e2 l2 o2) (.slice e3 l3 o3) (.slice e4 l4 o4) (.slice e5 l5 o5) (.slice e6 l6 o6)))
theorem mY (h:Array Value) (W:World) (c:Nat) (j:Array Value) (v:Value) (hsz:j.size=7) (k:h[4]?.getD undef=.pointer (some ⟨c,0,none⟩)) (r:h[5]?.getD undef=v) (l:W.heap[c]?=some (.cells j 26 (0,0))) :
    (results Tryz.f8 h).run prog W=.ok (.tuple #[.agg j,v]) W:=by
 simp[results,Tryz.results8,k,r,asAddr,xG hsz l]
section
variable {w:World}
theorem aJ5 {s:ByteArray}{n:Nt}{Z e2 e3 e4 e5 e6:Option Addr}{l1 o1 l2 o2 U o3 Y o4 l5 Q l6 o6 B:Nat}(hB:B≤w.heap.size) (hK:Kx.rP w) (hN:eJ B w n (.slice Z l1 o1) (.slice e2 l2 o2) (.slice e3 U o3) (.slice e4 Y o4) (.slice e5 l5 Q) (.slice e6 l6 o6)) (ba:∀x∈n.first,jF x) (bi:∀x∈n.nums,jF x) :
 Calls prog 8 #[.string s,.agg #[.int .i64 n.places,.slice Z l1 o1,.slice e2 l2 o2,.slice e3 U o3,.slice e4 Y o4,.slice e5 l5 Q,.slice e6 l6 o6]] w (Ze B w):=by
 obtain ⟨pl,av⟩:=gQx n.places
 have bc:Hid (pl=n.places):=av
 rw[<-av]
 obtain ⟨U1,ae⟩:=gQx (w.alloc (.cells #[.int .i64 pl,.slice Z l1 o1,.slice e2 l2 o2,.slice e3 U o3,.slice e4 Y o4,.slice e5 l5 Q,.slice e6 l6 o6] 26))
 obtain ⟨y,ac⟩:=gQx (U1.alloc (.cells ZN 26))
 have s1:U1.heap.size=w.heap.size+1:=by rw[ae];simp
 have b1:Below w.heap.size w U1:=by rw[ae];exact aL _ _
 have b2:Below U1.heap.size U1 y:=by rw[ac];exact aL _ _
 have an:Below w.heap.size w y:=aQ b1 b2
 have HB:Hid (Below w.heap.size w y/\y.heap.size=w.heap.size+2/\y.heap[w.heap.size]?=some (.cells #[.int .i64 pl,.slice Z l1 o1,.slice e2 l2 o2,.slice e3 U o3,.slice e4 Y o4,.slice e5 l5 Q,.slice e6 l6 o6] 26 (0,0))/\y.heap[w.heap.size+1]?=some (.cells ZN 26 (0,0))):=⟨an,by rw[ac];simp[s1],aD b2 (by rw[ae];exact aX w _),by rw[<-s1,ac];exact aX U1 _⟩
 have HN:Hid (eJ B w n (.slice Z l1 o1) (.slice e2 l2 o2) (.slice e3 U o3) (.slice e4 Y o4) (.slice e5 l5 Q) (.slice e6 l6 o6)/\(∀x∈n.first,jF x)/\(∀x∈n.nums,jF x)/\B≤w.heap.size):=⟨hN,ba,bi,hB⟩
 have aa:Calls prog 18 #[.string s] y fun e w'=>∃S a m p a' m' p' b,e=.returned (.tuple #[.agg #[.string S,.slice a m p,.slice a' m' p'],.bool b])/\Hid (Below y.heap.size y w'/\(b=true->∃c,Xj c/\gQ (fun x=>x<w'.heap.size) w' c (.agg #[.string S,.slice a m p,.slice a' m' p']))):=by
  by_cases h:s.size≤1500/\∃l c,Lx.Ok (bs s) l/\dJ (fin s l)=.ok c
  ·obtain ⟨hs,l,c,ay,bf⟩:=h
   refine (Kx.Cj hs (hK.up an) ay bf).mono fun e w' h=>?_
   rcases h with ⟨bm,S,a,m,p,a',m',p',he,h⟩|⟨_,he,h⟩
   ·refine ⟨S,a,m,p,a',m',p',true,he,h.out.2,fun _=>⟨c,emC ay bf bm,?_⟩⟩
    obtain ⟨p1,p2,p3,p4,p5,p6,p7,p8,p9⟩:=h.out.1
    have kp:bB (fun b=>y.heap.size<b) (fun b=>b<w'.heap.size) w' w':=fun x _ hl=>⟨hl,rfl⟩
    exact ⟨p1,p2,p3,p4,p5,p6,p7,p8.carry kp,p9.carry kp (aM.carry kp 6)⟩
   ·exact ⟨_,_,_,_,_,_,_,false,he,h.out,fun h=>absurd h (by simp)⟩
  ·exact (Kx.Gn (hK.up an) fun hs l c h'=>h ⟨hs,l,c,h'⟩).mono fun e w' ⟨he,h⟩=>⟨_,_,_,_,_,_,_,false,he,h.out,fun h=>absurd h (by simp)⟩
 rw[ae] at ac
 clear hK hN ba bi hB av s1 ae b1 b2 an
 go_enter Tryz.func8,Tryz.ntmps8
 go_upto_region 1 with fail
 rw[show (w.alloc (.cells #[.int .i64 pl,.slice Z l1 o1,.slice e2 l2 o2,.slice e3 U o3,.slice e4 Y o4,.slice e5 l5 Q,.slice e6 l6 o6] 26)).alloc (.cells #[.int .i64 0,.slice none 0 0,.slice none 0 0,.slice none 0 0,.slice none 0 0,.slice none 0 0,.slice none 0 0] 26)=y from ac.symm]
 clear ac
 go_upto_region 2 with (go_at_call 18;refine aa.mono ?_;rintro e w1 ⟨S,a,m,p,a',m',p',b,rfl,h1⟩)
 obtain ⟨V,hV⟩:=gQx (w1.alloc (.cells #[.string S,.slice a m p,.slice a' m' p'] 47))
 obtain ⟨q6,ax⟩:=gQx w1.heap.size
 have am:Below w1.heap.size w1 V:=by rw[hV];exact aL _ _
 have ao:V.heap[q6]?=some (.cells #[.string S,.slice a m p,.slice a' m' p'] 47 (0,0)):=by rw[hV,ax];exact aX w1 _
 have ah:Hid (Below y.heap.size y V/\(b=true->∃c,Xj c/\gQ (fun x=>x<V.heap.size) V c (.agg #[.string S,.slice a m p,.slice a' m' p']))):=⟨aQ h1.out.1 am,fun hb=>by
  obtain ⟨c,aj,p1,p2,p3,p4,p5,p6,p7,p8,p9⟩:=h1.out.2 hb
  have kp:bB (fun b=>b<w1.heap.size) (fun b=>b<V.heap.size) w1 V:=fun x _ hl=>⟨aO5 hl am.size,am.block x hl⟩
  exact ⟨c,aj,p1,p2,p3,p4,p5,p6,p7,p8.carry kp,p9.carry kp (aM.carry kp 6)⟩⟩
 have y0:=aF ao 0 (u:=.string S) rfl
 have y1:=aF ao 1 (u:=.slice a m p) rfl
 have y2:=aF ao 2 (u:=.slice a' m' p') rfl
 rw[<-hV,<-ax]
 clear hV ax am ao h1 aa
 go_upto_if 15 with fail
 go_cut [] (fun wx=>Hid (Below y.heap.size y wx))
 case first=>
  cases b with
  | false=>
   go_wp2_with fail
   go_meet
   case rel=>exact ah.out.1
  | true=>
   obtain ⟨c,aj,hC⟩:=ah.out.2 rfl
   have ai:Calls prog 19 #[.agg #[.string S,.slice a m p,.slice a' m' p']] V fun e w'=>∃pn f1 f2 f3 f4 f5 f6 k1 c1 k2 c2 k3 c3 k4 c4 k5 c5 k6 c6 v,e=.returned (.tuple #[.agg #[.int .i64 pn,.slice f1 k1 c1,.slice f2 k2 c2,.slice f3 k3 c3,.slice f4 k4 c4,.slice f5 k5 c5,.slice f6 k6 c6],v])/\((v=.nilIface/\Hid (Below V.heap.size V w'/\∃N:Nt,pn=N.places/\rE (fun b=>V.heap.size≤b/\b<w'.heap.size) w' N (.slice f1 k1 c1) (.slice f2 k2 c2) (.slice f3 k3 c3) (.slice f4 k4 c4) (.slice f5 k5 c5) (.slice f6 k6 c6)/\wV N/\Nx.fY N=(0,-1)))\/∃t x,v=.iface t x/\Hid (Below V.heap.size V w')):=(aI8 hC (fun _ h=>h) aj).mono fun e w' h=>by
    obtain ⟨hb,⟨_,t,x,rfl⟩|⟨N,vF,vI,vO,vK,vN,vC,h,rfl,hN,hf,I⟩⟩:=h
    ·exact ⟨_,_,_,_,_,_,_,_,_,_,_,_,_,_,_,_,_,_,_,_,rfl,.inr ⟨t,x,rfl,hb⟩⟩
    ·obtain ⟨f1,_,_,c1,rfl,_⟩:=id hN.f
     obtain ⟨f2,_,_,c2,rfl,_⟩:=id hN.i
     obtain ⟨f3,_,_,c3,rfl,_⟩:=id hN.o
     obtain ⟨f4,_,_,c4,rfl,_⟩:=id hN.k
     obtain ⟨f5,_,_,c5,rfl,_⟩:=id hN.m
     obtain ⟨f6,_,_,c6,rfl,_⟩:=id hN.c
     exact ⟨_,_,_,_,_,_,_,_,_,_,_,_,_,_,_,_,_,_,_,_,rfl,.inl ⟨rfl,hb,N,rfl,hN,hf,I⟩⟩
   clear aj hC
   go_upto_region 4 with (go_at_call 19;refine ai.mono ?_;rintro e w2 ⟨pn,f1,f2,f3,f4,f5,f6,k1,c1,k2,c2,k3,c3,k4,c4,k5,c5,k6,c6,v,rfl,h2⟩)
   obtain ⟨V2,ag⟩:=gQx (w2.alloc (.cells #[.int .i64 pn,.slice f1 k1 c1,.slice f2 k2 c2,.slice f3 k3 c3,.slice f4 k4 c4,.slice f5 k5 c5,.slice f6 k6 c6] 26))
   obtain ⟨q8,al⟩:=gQx w2.heap.size
   have ab:Below w2.heap.size w2 V2:=by rw[ag];exact aL _ _
   have ar:V2.heap[q8]?=some (.cells #[.int .i64 pn,.slice f1 k1 c1,.slice f2 k2 c2,.slice f3 k3 c3,.slice f4 k4 c4,.slice f5 k5 c5,.slice f6 k6 c6] 26 (0,0)):=by rw[ag,al];exact aX w2 _
   rw[<-ag,<-al]
   rcases h2 with ⟨rfl,h2⟩|⟨tt,tv,rfl,h2⟩
   ·obtain ⟨bj,N,bg,az,be,bh⟩:=h2.out
    have au:Below y.heap.size y V2:=aQ (aQ ah.out.1 bj) ab
    have u1:=aD au HB.out.2.2.2
    have HF:Hid (Below w.heap.size w V2/\V2.heap[w.heap.size+1]?=some (.cells ZN 26 (0,0))/\rE (fun b=>V.heap.size≤b/\b<V2.heap.size) V2 N (.slice f1 k1 c1) (.slice f2 k2 c2) (.slice f3 k3 c3) (.slice f4 k4 c4) (.slice f5 k5 c5) (.slice f6 k6 c6)/\wV N/\Nx.fY N=(0,-1)/\w.heap.size+2≤V.heap.size/\pn=N.places):=⟨aQ HB.out.1 au,u1,az.carry fun b hb hl=>⟨⟨hb.1,aO5 hb.2 ab.size⟩,ab.block b hl⟩,be,bh,by have:=ah.out.1.size;have:=HB.out.2.1;omega,bg⟩
    obtain ⟨r0,r1,r2,r3,r4,r5,r6⟩:=gJ u1
    have rf:∀o,V2.frozen? ⟨w.heap.size+1,o,none⟩=false:=fun o=>aG u1 o
    obtain ⟨p0,p1,p2,p3,p4,p5,p6⟩:=gJ ar
    clear ag al ab ar au u1 h2 ai y0 y1 y2 bj bg az be bh
    go_wp2_with fail
    obtain ⟨X,hX⟩:=gQx (((((((V2.setCell ⟨w.heap.size+1,0,none⟩ (.int .i64 pn)).setCell ⟨w.heap.size+1,1,none⟩ (.slice f1 k1 c1)).setCell ⟨w.heap.size+1,2,none⟩ (.slice f2 k2 c2)).setCell ⟨w.heap.size+1,3,none⟩ (.slice f3 k3 c3)).setCell ⟨w.heap.size+1,4,none⟩ (.slice f4 k4 c4)).setCell ⟨w.heap.size+1,5,none⟩ (.slice f5 k5 c5)).setCell ⟨w.heap.size+1,6,none⟩ (.slice f6 k6 c6))
    rw[<-hX]
    obtain ⟨z0,z1,z2,z3⟩:=Pk HF.out.2.1 hX
    clear hX
    refine aY9 (mY _ _ (w.heap.size+1) _ _ rfl rfl rfl z0) rfl ?_
    refine ⟨N,f1,f2,f3,f4,f5,f6,k1,c1,k2,c2,k3,c3,k4,c4,k5,c5,k6,c6,true,by rw[<-HF.out.2.2.2.2.2.2];rfl,z2 _ _ HF.out.1 (by omega),fun _=>⟨HF.out.2.2.1.carry (w':=X) fun b hb hl=>⟨.inr ⟨?_,by rw[z3];exact hb.2⟩,z1 b ?_⟩,pL HF.out.2.2.2.2.1,HF.out.2.2.2.2.1,HF.out.2.2.2.1.nf,HF.out.2.2.2.1.nn⟩⟩
    ·have:=HF.out.2.2.2.2.2.1;omega
    ·have:=HF.out.2.2.2.2.2.1;omega
   ·have HF:Hid (Below y.heap.size y V2):=aQ (aQ ah.out.1 h2.out) ab
    clear ag al ab ar h2 ai y0 y1 y2
    go_wp2_with fail
    go_meet
    case rel=>exact HF.out
 case rest=>
  have HT:Hid (Below w.heap.size w wc/\Below y.heap.size y wc):=⟨aQ HB.out.1 hcut.out,hcut.out⟩
  have ad:Hid (wc.heap[w.heap.size]?=some (.cells #[.int .i64 pl,.slice Z l1 o1,.slice e2 l2 o2,.slice e3 U o3,.slice e4 Y o4,.slice e5 l5 Q,.slice e6 l6 o6] 26 (0,0))/\wc.heap[w.heap.size+1]?=some (.cells ZN 26 (0,0))):=⟨aD hcut.out HB.out.2.2.1,aD hcut.out HB.out.2.2.2⟩
  obtain ⟨p0,p1,p2,p3,p4,p5,p6⟩:=gJ ad.out.1
  have r:=Nx.Sw _ n wc.drew _ _ _ _ _ _ (Hy HN.out.1 HN.out.2.2.2 (aQ HT.out.1 ((Below.refl _ wc).drew)))
  have I:=fun W (O:Below wc.heap.size wc W) (hs:Nx.jB n)=>Nx.iU W.heap.size n W _ _ _ _ _ _ (Hy HN.out.1 HN.out.2.2.2 (aQ HT.out.1 O)) (aO4 _) hs
  rw[<-bc.out] at r I
  have HF:Hid (∀(b:Bool) D,Below wc.heap.size wc D->(b=true->Nx.jB n/\Nx.fY n=(0,-1))->∀X,X=((((((D.setCell ⟨w.heap.size+1,0,none⟩ (.int .i64 pl)).setCell ⟨w.heap.size+1,1,none⟩ (.slice Z l1 o1)).setCell ⟨w.heap.size+1,2,none⟩ (.slice e2 l2 o2)).setCell ⟨w.heap.size+1,3,none⟩ (.slice e3 U o3)).setCell ⟨w.heap.size+1,4,none⟩ (.slice e4 Y o4)).setCell ⟨w.heap.size+1,5,none⟩ (.slice e5 l5 Q)).setCell ⟨w.heap.size+1,6,none⟩ (.slice e6 l6 o6)->X.heap[w.heap.size+1]?=some (.cells #[.int .i64 pl,.slice Z l1 o1,.slice e2 l2 o2,.slice e3 U o3,.slice e4 Y o4,.slice e5 l5 Q,.slice e6 l6 o6] 26 (0,0))/\Ze B w (.returned (.tuple #[.agg #[.int .i64 pl,.slice Z l1 o1,.slice e2 l2 o2,.slice e3 U o3,.slice e4 Y o4,.slice e5 l5 Q,.slice e6 l6 o6],.bool b])) X):=fun b D h8 hb X hX=>by
   obtain ⟨z0,z1,z2,z3⟩:=Pk (aD h8 ad.out.2) hX
   have bb:Below w.heap.size w X:=z2 _ _ (aQ HT.out.1 h8) (by omega)
   exact ⟨z0,n,Z,e2,e3,e4,e5,e6,l1,o1,l2,o2,U,o3,Y,o4,l5,Q,l6,o6,b,by rw[<-bc.out],bb,fun h=>⟨(Xh HN.out.1).carry fun b hb hl=>⟨.inl hb,bb.block b hl⟩,(hb h).1,(hb h).2,HN.out.2.1,HN.out.2.2.1⟩⟩
  have HZ:Hid (∀D,Below wc.heap.size wc D->D.heap[w.heap.size]?=some (.cells #[.int .i64 pl,.slice Z l1 o1,.slice e2 l2 o2,.slice e3 U o3,.slice e4 Y o4,.slice e5 l5 Q,.slice e6 l6 o6] 26 (0,0))/\D.heap[w.heap.size+1]?=some (.cells #[.int .i64 0,.slice none 0 0,.slice none 0 0,.slice none 0 0,.slice none 0 0,.slice none 0 0,.slice none 0 0] 26 (0,0))/\∀o,D.frozen? ⟨w.heap.size+1,o,none⟩=false):=fun D h=>⟨aD h ad.out.1,aD h ad.out.2,fun o=>aG (aD h ad.out.2) o⟩
  clear hcut
  go_upto_region 6 with fail
  by_cases hh:Ny n
  ·have j:Calls prog 20 #[.agg #[.int .i64 pl,.slice Z l1 o1,.slice e2 l2 o2,.slice e3 U o3,.slice e4 Y o4,.slice e5 l5 Q,.slice e6 l6 o6]] wc.drew fun e w'=>e=.returned (.bool true)/\Hid (Below wc.heap.size wc w'):=r.mono fun e w' ⟨b,he,hb,hbl⟩=>by
    rw[hb.2 hh] at he;exact ⟨he,aQ ((Below.refl _ wc).drew) hbl⟩
   have aw:Hid (Nx.jB n):=hh.small
   clear r
   by_cases hc:Nx.fY n=(0,-1)
   ·have ak:Hid (Nx.fY n=(0,-1)):=hc
    have af:∀W,Below wc.heap.size wc W->Calls prog 21 #[.agg #[.int .i64 pl,.slice Z l1 o1,.slice e2 l2 o2,.slice e3 U o3,.slice e4 Y o4,.slice e5 l5 Q,.slice e6 l6 o6]] W fun e w'=>e=.returned .nilIface/\Hid (Below wc.heap.size wc w'):=fun W O=>(I W O aw.out).mono fun e w' h=>by
     obtain ⟨v,rfl,he,hb⟩:=h
     rw[ak.out] at he
     rcases he with ⟨_,_,rfl⟩|⟨c1,_,_⟩|⟨c1,_⟩
     ·exact ⟨rfl,aQ O hb⟩
     ·exact absurd rfl c1
     ·exact absurd rfl c1
    clear hh hc I
    go_region_law (first
     | (go_simp;go_at_call 20;refine j.mono ?_;rintro e w7 ⟨rfl,h7⟩;obtain ⟨s0,s1,s2,s3,s4,s5,s6⟩:=gJ (HZ.out w7 h7.out).1;obtain ⟨t0,t1,t2,t3,t4,t5,t6⟩:=gJ (HZ.out w7 h7.out).2.1;have tf:=(HZ.out w7 h7.out).2.2;have ap:=af w7 h7.out)
     | (go_simp;go_at_call 21;refine ap.mono ?_;rintro e D ⟨rfl,h8⟩;obtain ⟨s0,s1,s2,s3,s4,s5,s6⟩:=gJ (HZ.out D h8.out).1;obtain ⟨t0,t1,t2,t3,t4,t5,t6⟩:=gJ (HZ.out D h8.out).2.1;have tf:=(HZ.out D h8.out).2.2))
    all_goals
     go_wp2_with fail
     obtain ⟨z0,J⟩:=HF.out true D h8.out (fun _=>⟨aw.out,ak.out⟩) _ rfl
     exact aY9 (mY _ _ (w.heap.size+1) _ _ rfl rfl rfl z0) rfl J
   ·have ak:Hid (Nx.fY n≠(0,-1)):=hc
    have af:∀W,Below wc.heap.size wc W->Calls prog 21 #[.agg #[.int .i64 pl,.slice Z l1 o1,.slice e2 l2 o2,.slice e3 U o3,.slice e4 Y o4,.slice e5 l5 Q,.slice e6 l6 o6]] W fun e w'=>∃t v,e=.returned (.iface t v)/\Hid (Below wc.heap.size wc w'):=fun W O=>(I W O aw.out).mono fun e w' h=>by
     obtain ⟨v,rfl,he,hb⟩:=h
     rcases he with ⟨c1,c2,rfl⟩|⟨_,_,rfl⟩|⟨_,g,q,_,_,rfl,_⟩
     ·exact absurd (Prod.ext c1 c2) ak.out
     ·exact ⟨_,_,rfl,aQ O hb⟩
     ·exact ⟨_,_,rfl,aQ O hb⟩
    clear hh hc I
    go_region_law (first
     | (go_simp;go_at_call 20;refine j.mono ?_;rintro e w7 ⟨rfl,h7⟩;obtain ⟨s0,s1,s2,s3,s4,s5,s6⟩:=gJ (HZ.out w7 h7.out).1;obtain ⟨t0,t1,t2,t3,t4,t5,t6⟩:=gJ (HZ.out w7 h7.out).2.1;have tf:=(HZ.out w7 h7.out).2.2;have ap:=af w7 h7.out)
     | (go_simp;go_at_call 21;refine ap.mono ?_;rintro e D ⟨tt,tv,rfl,h8⟩;obtain ⟨s0,s1,s2,s3,s4,s5,s6⟩:=gJ (HZ.out D h8.out).1;obtain ⟨t0,t1,t2,t3,t4,t5,t6⟩:=gJ (HZ.out D h8.out).2.1;have tf:=(HZ.out D h8.out).2.2))
    all_goals
     go_wp2_with fail
     obtain ⟨z0,J⟩:=HF.out false D h8.out (fun h=>absurd h (by simp)) _ rfl
     exact aY9 (mY _ _ (w.heap.size+1) _ _ rfl rfl rfl z0) rfl J
  ·have j:Calls prog 20 #[.agg #[.int .i64 pl,.slice Z l1 o1,.slice e2 l2 o2,.slice e3 U o3,.slice e4 Y o4,.slice e5 l5 Q,.slice e6 l6 o6]] wc.drew fun e w'=>e=.returned (.bool false)/\Hid (Below wc.heap.size wc w'):=r.mono fun e w' ⟨b,he,hb,hbl⟩=>by
    have bk:b=false:=by cases b with
     | false=>rfl
     | true=>exact absurd (hb.1 rfl) hh
    rw[bk] at he;exact ⟨he,aQ ((Below.refl _ wc).drew) hbl⟩
   clear r hh I
   go_region_law ((go_simp;go_at_call 20;refine j.mono ?_;rintro e w7 ⟨rfl,h7⟩;obtain ⟨s0,s1,s2,s3,s4,s5,s6⟩:=gJ (HZ.out w7 h7.out).1;obtain ⟨t0,t1,t2,t3,t4,t5,t6⟩:=gJ (HZ.out w7 h7.out).2.1;have tf:=(HZ.out w7 h7.out).2.2))
   all_goals
    go_wp2_with fail
    obtain ⟨z0,J⟩:=HF.out false w7 h7.out (fun h=>absurd h (by simp)) _ rfl
    exact aY9 (mY _ _ (w.heap.size+1) _ _ rfl rfl rfl z0) rfl J
end
end Ew
end
end Go.Proofs.YthieaobjdpfcoaaGreatDoor
