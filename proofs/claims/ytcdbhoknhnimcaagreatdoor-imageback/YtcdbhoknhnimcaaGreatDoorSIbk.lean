import Derived.Test.YtcdbhoknhnimcaaGreatDoorSIzC
import Derived.Test.YtcdbhoknhnimcaaGreatDoorSIn
import Derived.Test.YtcdbhoknhnimcaaGreatDoorSIa
set_option maxRecDepth 100000
set_option maxHeartbeats 16000000
namespace Go.Proofs.YtcdbhoknhnimcaaGreatDoor
section
open Go.RowKit
namespace Ix
open Nx
theorem uP {α:Type}{f:α->List UInt8}{b:Nat}:∀{l:List α},(∀z∈l,(f z).length≤b)->(l.flatMap f).length≤b*l.length
 | [],_=>by simp
 | a::r,h=>by
  have h1:=h a (by simp)
  have h2:=uP (l:=r) fun z hz=>h z (by simp[hz])
  rw[List.flatMap_cons,List.length_append,List.length_cons,Nat.mul_succ]
  omega
theorem bD8 {l:List Int}(hl:l.length≤4000) (h:∀z∈l,-9223372036854775808≤z/\z≤9223372036854775807):(pl l).length≤40010:=by
 have h1:=uP (f:=P8) (b:=10) (l:=l) fun z hz=>jN (h z hz).1 (h z hz).2
 have h2:=jN (z:=(l.length:Int)) (by omega) (by omega)
 unfold pl
 rw[List.length_append]
 omega
theorem cI8 {s:Sp}(h:aY4 s):(ps s).length≤50:=by
 have h1:=uP (f:=P8) (b:=10) (l:=eK s) fun z hz=>jN (by have:=h.1 z hz;omega) (by have:=h.1 z hz;omega)
 have h2:(eK s).length≤5:=by
  unfold eK
  simp only[List.length_cons,List.length_take,List.length_nil]
  omega
 unfold ps
 omega
theorem sC {n:Nt}(h:xK n):(cD n).length≤1000000:=by
 have a1:=jN (z:=n.places) (by have:=h.p;omega) (by have:=h.p;omega)
 have a2:=bD8 h.f.1 h.f.2
 have a3:=bD8 h.i.1 fun z hz=>by have:=h.i.2 z hz;omega
 have a4:=bD8 h.o.1 fun z hz=>by have:=h.o.2 z hz;omega
 have a5:=bD8 h.k.1 fun z hz=>by have:=h.k.2 z hz;omega
 have a6:=bD8 h.m.1 h.m.2
 have a7:=jN (z:=(n.code.length:Int)) (by omega) (by have:=h.c.1;omega)
 have a8:=uP (f:=ps) (b:=50) (l:=n.code) fun s hs=>cI8 (h.c.2 s hs)
 have:=h.c.1
 unfold cD
 simp only[List.length_append,List.length_cons,List.length_nil]
 omega
theorem aB8 (n:Nt):0<(cD n).length:=by
 unfold cD
 simp only[List.length_append,List.length_cons,List.length_nil]
 omega
theorem aQ8 {n:Nt}(hs:eU n) (h:xK n) (k:Nat):∀m r,vZ (((cD n).take k).drop 4)=some (m,r)->eU m:=fun m r hr=>by
 obtain ⟨e,hm⟩:=cF3 hr
 have e2:(cD n).drop 4=lW n:=by rw[iG];rfl
 have e3:((cD n).take k).drop 4=(lW n).take (k-4):=by rw[List.drop_take,e2]
 have h1:=rF n h []
 rw[List.append_nil,<-List.take_append_drop (k-4) (lW n),<-e3,e,List.append_assoc,rF m hm] at h1
 injection h1 with h1
 injection h1 with h1
 rw[h1];exact hs
theorem bY3 (n:Nt) (w:World) (hs:eU n) (h:xK n) (k:Nat):Calls Tryz.prog 23 #[.string (kL ((cD n).take k))] w fun e w'=>jO w (dS ((cD n).take k)).1 (dS ((cD n).take k)).2 e w':=by
 have hl:=sC h
 by_cases h4:((cD n).take k).take 4=hd4
 ·refine bZ9 _ w h4 ?_ (aQ8 hs h k)
  rw[List.length_take];omega
 ·rw[yR h4];exact aL0 _ w h4
theorem cB8 (a n:Int) (w:World) (hn:0<n) (hn2:n≤1000000) :
    Calls Tryz.prog 25 #[.int .i64 a,.int .i64 n] w fun e w'=>e=.returned (.int .i64 (a % 18446744073709551616 % n))/\w'=w:=by
 have e1:IntKind.u64.wrap a=a % 18446744073709551616:=IntKind.wrap_u64 a
 have e2:IntKind.u64.wrap n=n:=by rw[IntKind.wrap_u64,Int.emod_eq_of_lt (by omega) (by omega)]
 have h0:=Int.emod_nonneg a (show (18446744073709551616:Int)≠0 by omega)
 obtain ⟨u,hu⟩:∃u,u=a % 18446744073709551616:=⟨_,rfl⟩
 rw[<-hu] at e1 h0
 have h1:=Int.emod_nonneg u (show n≠0 by omega)
 have h2:=Int.emod_lt_of_pos u hn
 have e3:u.tmod n=u % n:=Int.tmod_eq_emod_of_nonneg h0
 obtain ⟨r,hr⟩:∃r,r=u % n:=⟨_,rfl⟩
 rw[<-hr] at h1 h2 e3
 have e4:IntKind.u64.wrap r=r:=by rw[IntKind.wrap_u64,Int.emod_eq_of_lt (by omega) (by omega)]
 have e5:IntKind.i64.wrap r=r:=by rw[IntKind.wrap_i64];omega
 have hn0:¬n=0:=by omega
 have HU:Hid (a % 18446744073709551616 % n=r):=by unfold Hid;rw[<-hu,<-hr]
 clear hu hr
 go_enter Tryz.func25,Tryz.ntmps25
 go_wp2
 go_ret
 rw[HU.out]
 exact ⟨rfl,rfl⟩
theorem aH9 (w:World):Calls Tryz.prog 22 #[] w fun e w'=>e=.returned (.bool true)/\Hid (Below w.heap.size w w'):=by
 obtain ⟨W,hW⟩:∃W,W=w.alloc (.cells #[.int .i64 (-1)] 2):=⟨_,rfl⟩
 have hbW:Below w.heap.size w W:=by rw[hW];exact aM w _
 have hkW:W.heap[w.heap.size]?=some (.cells #[.int .i64 (-1)] 2 (0,0)):=by rw[hW];exact heap_alloc_new w _
 have hN:gJ W.heap.size W imN (.slice (some ⟨w.heap.size,0,none⟩) 1 1) (.slice none 0 0) (.slice none 0 0) (.slice none 0 0) (.slice none 0 0) (.slice none 0 0):=by
  refine ⟨⟨_,w.heap.size,0,1,rfl,fun _=>⟨rfl,by rw[hW];simp⟩,fun k hk=>?_⟩,⟨none,0,0,0,rfl,fun h=>absurd h (by simp[imN]),fun k hk=>absurd hk (by simp[imN])⟩,⟨none,0,0,0,rfl,fun h=>absurd h (by simp[imN]),fun k hk=>absurd hk (by simp[imN])⟩,⟨none,0,0,0,rfl,fun h=>absurd h (by simp[imN]),fun k hk=>absurd hk (by simp[imN])⟩,⟨none,0,0,0,rfl,fun h=>absurd h (by simp[imN]),fun k hk=>absurd hk (by simp[imN])⟩,⟨none,0,0,0,rfl,fun h=>absurd h (by simp[imN]),fun k hk=>absurd hk (by simp[imN])⟩⟩
  have e:k=0:=by simp[imN] at hk;omega
  subst e
  rw[cell_of_row _ _ _ _ _ _ hkW];rfl
 have hwr:=qM W.heap.size imN W _ _ _ _ _ _ hN (Nat.le_refl _) aV2 aV4 aV3 bI2
 rw[aV5] at hwr
 have hwr':Calls Tryz.prog 24 #[.agg #[.int .i64 1,.slice (some ⟨w.heap.size,0,none⟩) 1 1,.slice none 0 0,.slice none 0 0,.slice none 0 0,.slice none 0 0,.slice none 0 0]] W fun e w'=>e=.returned (.tuple #[.string ⟨#[67,76,80,49,2,2,1,0,0,0,0,0]⟩,.nilIface])/\Hid (Below w.heap.size w w'):=hwr.mono fun e w' ⟨he,hb⟩=>⟨he,iQ hbW hb⟩
 rw[hW] at hwr'
 clear hwr hN hkW hbW hW
 go_enter Tryz.func22,Tryz.ntmps22
 go_wp2_with (go_at_call 24;refine hwr'.mono ?_;rintro e w1 ⟨rfl,h1⟩)
 go_ret
 exact ⟨rfl,h1⟩
end Ix
end
section
open Go.RowKit Px
namespace Ew
open Nx (Nt Sp gJ)
open Ix (kL cD dS jO)
theorem aD0 (t:ByteArray):kL (bs t)=t:=by cases t;simp[kL,bs]
theorem bX7 {l:List Int}(h:∀x∈l,gQ x):Ix.gQ l:=fun z hz=>h z hz
def cH0 (w:World) (n:Nt) (f:Nat×Int) (e:Ending) (w':World):Prop:=∃(e1 e2 e3 e4 e5 e6:Option Addr) (l1 o1 l2 o2 l3 o3 l4 o4 l5 o5 l6 o6:Nat) (v:Value),e=.returned (.tuple #[.agg #[.int .i64 n.places,.slice e1 l1 o1,.slice e2 l2 o2,.slice e3 l3 o3,.slice e4 l4 o4,.slice e5 l5 o5,.slice e6 l6 o6],v])/\(f=(0,-1)->v=.nilIface)/\(f≠(0,-1)->∃t x,v=.iface t x)/\Hid (Below w.heap.size w w'/\gJ w'.heap.size w' n (.slice e1 l1 o1) (.slice e2 l2 o2) (.slice e3 l3 o3) (.slice e4 l4 o4) (.slice e5 l5 o5) (.slice e6 l6 o6))
theorem cB6 {w w':World}{n:Nt}{f:Nat×Int}{e:Ending}(h:jO w n f e w'):cH0 w n f e w':=by
 obtain ⟨vF,vI,vO,vK,vN,vC,v,rfl,hN,_,hE,hb⟩:=h
 obtain ⟨e1,_,_,o1,rfl,_⟩:=id hN.f
 obtain ⟨e2,_,_,o2,rfl,_⟩:=id hN.i
 obtain ⟨e3,_,_,o3,rfl,_⟩:=id hN.o
 obtain ⟨e4,_,_,o4,rfl,_⟩:=id hN.k
 obtain ⟨e5,_,_,o5,rfl,_⟩:=id hN.m
 obtain ⟨e6,_,_,o6,rfl,_⟩:=id hN.c
 refine ⟨_,_,_,_,_,_,_,_,_,_,_,_,_,_,_,_,_,_,v,rfl,fun hf=>?_,fun hf=>?_,hb,hN⟩
 ·rw[hf] at hE
  rcases hE with ⟨_,_,rfl⟩|⟨c,_⟩|⟨c,_⟩
  ·rfl
  ·exact absurd rfl c
  ·exact absurd rfl c
 ·rcases hE with ⟨c1,c2,_⟩|⟨_,_,rfl⟩|⟨_,g,q,_,_,rfl,_⟩
  ·exact absurd (Prod.ext c1 c2) hf
  ·exact ⟨_,_,rfl⟩
  ·exact ⟨_,_,rfl⟩
theorem cI7 {w2:World}{c:Nat}{b0 b1 b2 b3 b4 b5 b6 a0 a1 a2 a3 a4 a5 a6:Value}(hc:w2.heap[c]?=some (.cells #[b0,b1,b2,b3,b4,b5,b6] 26 (0,0))) {w3:World}(hw:w3=((((((w2.setCell ⟨c,0,none⟩ a0).setCell ⟨c,1,none⟩ a1).setCell ⟨c,2,none⟩ a2).setCell ⟨c,3,none⟩ a3).setCell ⟨c,4,none⟩ a4).setCell ⟨c,5,none⟩ a5).setCell ⟨c,6,none⟩ a6) :
    w3.heap[c]?=some (.cells #[a0,a1,a2,a3,a4,a5,a6] 26 (0,0))/\(∀k,k≠c->w3.heap[k]?=w2.heap[k]?)/\(∀B a,Below B a w2->B≤c->Below B a w3)/\w3.heap.size=w2.heap.size:=by
 have h0:=bS (l:=[b0,b1,b2,b3,b4,b5,b6]) hc 0 a0
 have h1:=bS (l:=[a0,b1,b2,b3,b4,b5,b6]) h0 1 a1
 have h2:=bS (l:=[a0,a1,b2,b3,b4,b5,b6]) h1 2 a2
 have h3:=bS (l:=[a0,a1,a2,b3,b4,b5,b6]) h2 3 a3
 have h4:=bS (l:=[a0,a1,a2,a3,b4,b5,b6]) h3 4 a4
 have h5:=bS (l:=[a0,a1,a2,a3,a4,b5,b6]) h4 5 a5
 have h6:=bS (l:=[a0,a1,a2,a3,a4,a5,b6]) h5 6 a6
 have ot:∀(W:World) (j:Nat) (u:Value) (k:Nat),k≠c->(W.setCell ⟨c,j,none⟩ u).heap[k]?=W.heap[k]?:=fun W j u k hk=>Below.heap_setCell _ _ _ _ hk
 have bl:∀(B:Nat) (a W:World) (j:Nat) (u:Value),Below B a W->B≤c->Below B a (W.setCell ⟨c,j,none⟩ u):=fun B a W j u h hB=>h.setCell (p:=⟨c,j,none⟩) hB u
 have sz:∀(W:World) (j:Nat) (u:Value),(W.setCell ⟨c,j,none⟩ u).heap.size=W.heap.size:=fun W j u=>by simp[World.setCell]
 rw[hw]
 refine ⟨h6,fun k hkc=>?_,fun B a hb hBc=>?_,?_⟩
 ·rw[ot _ _ _ _ hkc,ot _ _ _ _ hkc,ot _ _ _ _ hkc,ot _ _ _ _ hkc,ot _ _ _ _ hkc,ot _ _ _ _ hkc,ot _ _ _ _ hkc]
 ·exact bl _ _ _ _ _ (bl _ _ _ _ _ (bl _ _ _ _ _ (bl _ _ _ _ _ (bl _ _ _ _ _ (bl _ _ _ _ _ (bl _ _ _ _ _ hb hBc) hBc) hBc) hBc) hBc) hBc) hBc
 ·rw[sz,sz,sz,sz,sz,sz,sz]
section
variable {w:World}
theorem xT {s t:ByteArray}{cut:Int}{n:Nt}{e1 e2 e3 e4 e5 e6:Option Addr}{l1 o1 l2 o2 l3 o3 l4 o4 l5 o5 l6 o6:Nat}(hK:Kx.pV w) (hN:gJ w.heap.size w n (.slice e1 l1 o1) (.slice e2 l2 o2) (.slice e3 l3 o3) (.slice e4 l4 o4) (.slice e5 l5 o5) (.slice e6 l6 o6)) (hnf:∀x∈n.first,gQ x) (hnn:∀x∈n.nums,gQ x) :
    Calls Tryz.prog 7 #[.string s,.agg #[.int .i64 n.places,.slice e1 l1 o1,.slice e2 l2 o2,.slice e3 l3 o3,.slice e4 l4 o4,.slice e5 l5 o5,.slice e6 l6 o6],.string t,.int .i64 cut] w fun e w'=>e=.returned (.bool true)/\Hid (Below w.heap.size w w'):=by
 obtain ⟨pl,hpl⟩:∃pl,pl=n.places:=⟨_,rfl⟩
 have HPL:Hid (pl=n.places):=hpl
 rw[<-hpl]
 obtain ⟨W0,hW0⟩:∃W0,W0=w.alloc (.cells #[.int .i64 pl,.slice e1 l1 o1,.slice e2 l2 o2,.slice e3 l3 o3,.slice e4 l4 o4,.slice e5 l5 o5,.slice e6 l6 o6] 26):=⟨_,rfl⟩
 obtain ⟨q5,hq5⟩:∃q5,q5=w.heap.size:=⟨_,rfl⟩
 have HB:Hid (Below w.heap.size w W0/\q5=w.heap.size/\W0.heap[q5]?=some (.cells #[.int .i64 pl,.slice e1 l1 o1,.slice e2 l2 o2,.slice e3 l3 o3,.slice e4 l4 o4,.slice e5 l5 o5,.slice e6 l6 o6] 26 (0,0))):=⟨by rw[hW0];exact aD _ _,hq5,by rw[hW0,hq5];exact bF w _⟩
 have HN:Hid (gJ w.heap.size w n (.slice e1 l1 o1) (.slice e2 l2 o2) (.slice e3 l3 o3) (.slice e4 l4 o4) (.slice e5 l5 o5) (.slice e6 l6 o6)/\(∀x∈n.first,gQ x)/\(∀x∈n.nums,gQ x)/\Kx.pV w):=⟨hN,hnf,hnn,hK⟩
 clear hK hN hnf hnn hpl
 go_enter Tryz.func7,Tryz.ntmps7
 go_upto_region 1 with fail
 rw[<-hW0,<-hq5]
 clear hW0 hq5
 by_cases ht:(1500:Int)<(t.size:Int)
 ·go_wp2_with fail
  go_ret
  exact ⟨rfl,HB.out.1⟩
 have HTS:Hid ((bs t).length≤1500):=by show t.data.toList.length≤1500;rw[Array.length_toList];show t.size≤1500;omega
 have him:=Ix.aH9 W0
 go_upto_region 5 with (go_at_call 22;refine him.mono ?_;rintro e w1 ⟨rfl,h1⟩)
 have hrd:Calls Tryz.prog 23 #[.string t] w1 (cH0 w1 (dS (bs t)).1 (dS (bs t)).2):=by
  have h:=Ix.aE2 (bs t) w1 HTS.out
  rw[aD0] at h
  exact h.mono fun e w' h=>cB6 h
 have HB1:Hid (Below W0.heap.size W0 w1):=h1
 obtain ⟨pp,hpp⟩:∃pp,pp=(dS (bs t)).1.places:=⟨_,rfl⟩
 have HPP:Hid (pp=(dS (bs t)).1.places):=hpp
 unfold cH0 at hrd
 rw[<-hpp] at hrd
 clear him h1 hpp ht
 go_upto_region 6 with (go_at_call 23;refine hrd.mono ?_;rintro e w2 ⟨f1,f2,f3,f4,f5,f6,k1,c1,k2,c2,k3,c3,k4,c4,k5,c5,k6,c6,v,rfl,hv1,hv2,h2⟩)
 obtain ⟨U,hU⟩:∃U,U=w2.alloc (.cells #[.int .i64 pp,.slice f1 k1 c1,.slice f2 k2 c2,.slice f3 k3 c3,.slice f4 k4 c4,.slice f5 k5 c5,.slice f6 k6 c6] 26):=⟨_,rfl⟩
 obtain ⟨q9,hq9⟩:∃q9,q9=w2.heap.size:=⟨_,rfl⟩
 have hbU:Below w2.heap.size w2 U:=by rw[hU];exact aD _ _
 have HU:Hid (Below W0.heap.size W0 U/\gJ U.heap.size U (dS (bs t)).1 (.slice f1 k1 c1) (.slice f2 k2 c2) (.slice f3 k3 c3) (.slice f4 k4 c4) (.slice f5 k5 c5) (.slice f6 k6 c6)/\U.heap[q9]?=some (.cells #[.int .i64 pp,.slice f1 k1 c1,.slice f2 k2 c2,.slice f3 k3 c3,.slice f4 k4 c4,.slice f5 k5 c5,.slice f6 k6 c6] 26 (0,0))):=⟨aW (aW HB1.out h2.out.1) hbU,h2.out.2.below hbU hbU.size,by rw[hU,hq9];exact bF w2 _⟩
 rw[<-hU,<-hq9]
 clear hU hq9 hbU h2 hrd
 go_cut [29] (fun x wx=>∃b:Bool,x=.bool b/\wx=U/\Hid (b=true->(dS (bs t)).2=(0,-1)))
 case first=>
  by_cases hr:(dS (bs t)).2=(0,-1)
  ·obtain rfl:=hv1 hr
   go_wp2_with fail
   go_meet
   case rel=>exact ⟨true,rfl,rfl,fun _=>hr⟩
  ·obtain ⟨tt,tv,rfl⟩:=hv2 hr
   go_wp2_with fail
   go_meet
   case rel=>exact ⟨false,rfl,rfl,fun h=>absurd h (by simp)⟩
 case rest=>
  obtain ⟨b,rfl,rfl,hb⟩:=hcut
  clear hv1 hv2
  go_upto_if 29 with fail
  go_cut [] (fun wx=>Hid (Below W0.heap.size W0 wx))
  case first=>
   cases b with
   | false=>
    go_wp2_with fail
    go_meet
    case rel=>exact HU.out.1
   | true=>
    obtain ⟨M,hM,hMc,hMt,hMo⟩:=Ix.aE5 (hb.out rfl)
    have hwr:Calls Tryz.prog 24 #[.agg #[.int .i64 pp,.slice f1 k1 c1,.slice f2 k2 c2,.slice f3 k3 c3,.slice f4 k4 c4,.slice f5 k5 c5,.slice f6 k6 c6]] wc fun e w'=>e=.returned (.tuple #[.string t,.nilIface])/\Hid (Below wc.heap.size wc w'):=by
     have hN2:=HU.out.2.1
     rw[HPP.out]
     rw[hM] at hN2 ⊢
     have h:=Ix.qM wc.heap.size M wc _ _ _ _ _ _ hN2 (Nat.le_refl _) (kT hMc) hMc hMo.f.2 hMo.m.2
     rw[<-hMt,aD0] at h
     exact h.mono fun e w' ⟨he,hb⟩=>⟨he,hb⟩
    obtain ⟨p0,p1,p2,p3,p4,p5,p6⟩:=eG HU.out.2.2
    clear hb hM hMc hMt hMo
    go_upto_region 8 with (go_at_call 24;refine hwr.mono ?_;rintro e w3 ⟨rfl,h3⟩)
    have HV:Hid (Below W0.heap.size W0 w3):=aW HU.out.1 h3.out
    clear hwr h3 p0 p1 p2 p3 p4 p5 p6
    go_wp2_with fail
    go_meet
    case rel=>exact HV.out
  case rest=>
   have HV:Hid (Below w.heap.size w wc/\Below W0.heap.size W0 wc):=⟨aW HB.out.1 hcut.out,hcut.out⟩
   clear hcut hb
   have hkV:=aR HV.out.2 HB.out.2.2
   have hNV:=HN.out.1.below HV.out.1 (Nat.le_refl _)
   have hcode:=wX (s:=s) HV.out.1.size (HN.out.2.2.2.up HV.out.1) hNV HN.out.2.1 HN.out.2.2.1
   rw[<-HPL.out] at hcode
   obtain ⟨r0,r1,r2,r3,r4,r5,r6⟩:=eG hkV
   clear hNV hkV
   go_upto_region 11 with (go_at_call 10;refine hcode.mono ?_;rintro e w4 ⟨N,g1,g2,g3,g4,g5,g6,m1,d1,m2,d2,m3,d3,m4,d4,m5,d5,m6,d6,b,rfl,h4⟩;have hk4:=aR h4.out.1 (aR HV.out.2 HB.out.2.2);obtain ⟨z0,z1,z2,z3,z4,z5,z6⟩:=eG hk4;have zf:=aH hk4)
   obtain ⟨pn,hpn⟩:∃pn,pn=N.places:=⟨_,rfl⟩
   have HPN:Hid (pn=N.places):=hpn
   rw[<-hpn]
   obtain ⟨X,hX⟩:∃X,X=((((((w4.setCell ⟨q5,0,none⟩ (.int .i64 pn)).setCell ⟨q5,1,none⟩ (.slice g1 m1 d1)).setCell ⟨q5,2,none⟩ (.slice g2 m2 d2)).setCell ⟨q5,3,none⟩ (.slice g3 m3 d3)).setCell ⟨q5,4,none⟩ (.slice g4 m4 d4)).setCell ⟨q5,5,none⟩ (.slice g5 m5 d5)).setCell ⟨q5,6,none⟩ (.slice g6 m6 d6):=⟨_,rfl⟩
   rw[<-hX]
   obtain ⟨y0,y1,y2,y3⟩:=cI7 (aR h4.out.1 (aR HV.out.2 HB.out.2.2)) hX
   have hbX:Below w.heap.size w X:=y2 _ _ (aW HV.out.1 h4.out.1) (by have:=HB.out.2.1;omega)
   have HX:Hid (Below w.heap.size w X):=hbX
   cases b with
   | false=>
    clear hX y0 y1 y2 y3 hbX zf z0 z1 z2 z3 z4 z5 z6 hk4 hcode
    go_wp2_with fail
    go_ret
    exact ⟨rfl,HX⟩
   | true=>
    have hq:q5<wc.heap.size:=by have:=aB (aR HV.out.2 HB.out.2.2);exact this
    have HC:Hid (gJ X.heap.size X N (.slice g1 m1 d1) (.slice g2 m2 d2) (.slice g3 m3 d3) (.slice g4 m4 d4) (.slice g5 m5 d5) (.slice g6 m6 d6)/\Nx.eU N/\Nx.dY N=(0,-1)/\Ix.gQ N.first/\Ix.gQ N.nums/\Ix.xK N):=by
     have c:=h4.out.2 rfl
     refine ⟨(c.v.carry (A':=fun x=>x<X.heap.size) (w':=X) fun x hx hl=>⟨by rw[y3];exact hl,y1 x ?_⟩).netV fun _ h=>h,c.s,c.ok,bX7 c.nf,bX7 c.nn,Ix.xA c.ok c.s (bX7 c.nf) (bX7 c.nn)⟩
     rcases hx with hx|hx
     ·have:=HB.out.2.1;omega
     ·omega
    obtain ⟨T,hT⟩:∃T,T=kL (cD N):=⟨_,rfl⟩
    have HT9:Hid (T=kL (cD N)):=hT
    have hwr:∀W,Below X.heap.size X W->Calls Tryz.prog 24 #[.agg #[.int .i64 pn,.slice g1 m1 d1,.slice g2 m2 d2,.slice g3 m3 d3,.slice g4 m4 d4,.slice g5 m5 d5,.slice g6 m6 d6]] W fun e w'=>e=.returned (.tuple #[.string T,.nilIface])/\Hid (Below X.heap.size X w'):=fun W hW=>by
     rw[HPN.out,hT]
     exact (Ix.qM W.heap.size N W _ _ _ _ _ _ (HC.out.1.below hW hW.size) (Nat.le_refl _) HC.out.2.1 HC.out.2.2.1 HC.out.2.2.2.1 HC.out.2.2.2.2.1).mono fun e w' ⟨he,hb⟩=>⟨he,aW hW hb⟩
    have hrd:∀W,Below X.heap.size X W->Calls Tryz.prog 23 #[.string T] W fun e w'=>∃(f1 f2 f3 f4 f5 f6:Option Addr) (k1 c1 k2 c2 k3 c3 k4 c4 k5 c5 k6 c6:Nat),e=.returned (.tuple #[.agg #[.int .i64 pn,.slice f1 k1 c1,.slice f2 k2 c2,.slice f3 k3 c3,.slice f4 k4 c4,.slice f5 k5 c5,.slice f6 k6 c6],.nilIface])/\Hid (Below X.heap.size X w'/\gJ w'.heap.size w' N (.slice f1 k1 c1) (.slice f2 k2 c2) (.slice f3 k3 c3) (.slice f4 k4 c4) (.slice f5 k5 c5) (.slice f6 k6 c6)):=fun W hW=>by
     have h:=Ix.bY3 N W HC.out.2.1 HC.out.2.2.2.2.2 (cD N).length
     rw[List.take_length,Ix.aE6 HC.out.2.2.1 HC.out.2.1 HC.out.2.2.2.1 HC.out.2.2.2.2.1,<-hT] at h
     refine h.mono fun e w' h=>?_
     obtain ⟨f1,f2,f3,f4,f5,f6,k1,c1,k2,c2,k3,c3,k4,c4,k5,c5,k6,c6,v,rfl,h2,_,h3⟩:=cB6 h
     obtain rfl:=h2 rfl
     exact ⟨f1,f2,f3,f4,f5,f6,k1,c1,k2,c2,k3,c3,k4,c4,k5,c5,k6,c6,by rw[HPN.out],aW hW h3.out.1,h3.out.2⟩
    obtain ⟨x0,x1,x2,x3,x4,x5,x6⟩:=eG y0
    have hw1:=hwr X (Below.refl _ _)
    clear hX y0 y1 y2 y3 hbX zf z0 z1 z2 z3 z4 z5 z6 hk4 hcode hq hT h4 hpn r0 r1 r2 r3 r4 r5 r6
    go_upto_region 16 with (go_at_call 24;refine hw1.mono ?_;rintro e w5 ⟨rfl,h5⟩;clear hw1)
    have hr1:=hrd w5 h5.out
    clear x0 x1 x2 x3 x4 x5 x6
    go_upto_region 17 with (go_at_call 23;refine hr1.mono ?_;rintro e w6 ⟨j1,j2,j3,j4,j5,j6,i1,u1,i2,u2,i3,u3,i4,u4,i5,u5,i6,u6,rfl,h6⟩;clear hr1)
    obtain ⟨Y,hY⟩:∃Y,Y=w6.alloc (.cells #[.int .i64 pn,.slice j1 i1 u1,.slice j2 i2 u2,.slice j3 i3 u3,.slice j4 i4 u4,.slice j5 i5 u5,.slice j6 i6 u6] 26):=⟨_,rfl⟩
    obtain ⟨q16,hq16⟩:∃q16,q16=w6.heap.size:=⟨_,rfl⟩
    have hbY:Below w6.heap.size w6 Y:=by rw[hY];exact aD _ _
    have hkY:Y.heap[q16]?=some (.cells #[.int .i64 pn,.slice j1 i1 u1,.slice j2 i2 u2,.slice j3 i3 u3,.slice j4 i4 u4,.slice j5 i5 u5,.slice j6 i6 u6] 26 (0,0)):=by rw[hY,hq16];exact bF w6 _
    have HY:Hid (Below X.heap.size X Y):=aW h6.out.1 hbY
    have hw2:Calls Tryz.prog 24 #[.agg #[.int .i64 pn,.slice j1 i1 u1,.slice j2 i2 u2,.slice j3 i3 u3,.slice j4 i4 u4,.slice j5 i5 u5,.slice j6 i6 u6]] Y fun e w'=>e=.returned (.tuple #[.string T,.nilIface])/\Hid (Below X.heap.size X w'):=by
     rw[HPN.out,HT9.out]
     exact (Ix.qM Y.heap.size N Y _ _ _ _ _ _ (h6.out.2.below hbY hbY.size) (Nat.le_refl _) HC.out.2.1 HC.out.2.2.1 HC.out.2.2.2.1 HC.out.2.2.2.2.1).mono fun e w' ⟨he,hb⟩=>⟨he,aW HY.out hb⟩
    obtain ⟨x0,x1,x2,x3,x4,x5,x6⟩:=eG hkY
    rw[<-hY,<-hq16]
    clear hY hq16 hbY hkY h5 h6
    go_upto_region 20 with (go_at_call 24;refine hw2.mono ?_;rintro e w7 ⟨rfl,h7⟩;clear hw2)
    clear x0 x1 x2 x3 x4 x5 x6
    have hlen:T.size=(cD N).length:=by rw[HT9.out];show (cD N).toArray.size=_;simp
    have hle:=Ix.sC HC.out.2.2.2.2.2
    have hpos:=Ix.aB8 N
    have hpk:=Ix.cB8 cut (T.size:Int) w7 (by omega) (by omega)
    obtain ⟨kk,hkk⟩:∃kk:Nat,cut % 18446744073709551616 % (T.size:Int)=(kk:Int):=⟨(cut % 18446744073709551616 % (T.size:Int)).toNat,by have:=Int.emod_nonneg (cut % 18446744073709551616) (show (T.size:Int)≠0 by omega);omega⟩
    have hkl:kk<T.size:=by have:=Int.emod_lt_of_pos (cut % 18446744073709551616) (show (0:Int)<(T.size:Int) by omega);omega
    rw[hkk] at hpk
    have HKL:Hid (kk<(cD N).length/\T.size=(cD N).length):=⟨by omega,hlen⟩
    clear hkk hlen hle hpos
    have hrd2:Calls Tryz.prog 23 #[.string (T.extract 0 kk)] w7 fun e w'=>∃(p:Int) (f1 f2 f3 f4 f5 f6:Option Addr) (k1 c1 k2 c2 k3 c3 k4 c4 k5 c5 k6 c6:Nat) (tt:TypeId) (tv:Value),e=.returned (.tuple #[.agg #[.int .i64 p,.slice f1 k1 c1,.slice f2 k2 c2,.slice f3 k3 c3,.slice f4 k4 c4,.slice f5 k5 c5,.slice f6 k6 c6],.iface tt tv])/\Hid (Below w7.heap.size w7 w'):=by
     have hP:kL ((cD N).take kk)=T.extract 0 kk:=by
      rw[<-aD0 (T.extract 0 kk),qI,HT9.out]
      show _=kL (((cD N).toArray.toList.drop 0).take (kk-0))
      simp
     have h:=Ix.bY3 N w7 HC.out.2.1 HC.out.2.2.2.2.2 kk
     rw[Ix.aE4 HC.out.2.2.1 HC.out.2.1 HC.out.2.2.2.1 HC.out.2.2.2.2.1 kk HKL.out.1,hP] at h
     refine h.mono fun e w' h=>?_
     obtain ⟨f1,f2,f3,f4,f5,f6,k1,c1,k2,c2,k3,c3,k4,c4,k5,c5,k6,c6,v,rfl,_,h2,h3⟩:=cB6 h
     obtain ⟨tt,tv,rfl⟩:=h2 (by simp)
     exact ⟨_,f1,f2,f3,f4,f5,f6,k1,c1,k2,c2,k3,c3,k4,c4,k5,c5,k6,c6,tt,tv,rfl,h3.out.1⟩
    have hk6:T.size≤1000000:=by have:=HKL.out.2;have:=Ix.sC HC.out.2.2.2.2.2;omega
    go_upto_region 22 with fail
    go_upto_region 23 with (first|(go_at_call 25;refine hpk.mono ?_;rintro e w8 ⟨rfl,hw8⟩;obtain rfl:=hw8.symm;clear hpk)|(go_at_call 23;refine hrd2.mono ?_;rintro e w9 ⟨p9,f1,f2,f3,f4,f5,f6,k1,c1,k2,c2,k3,c3,k4,c4,k5,c5,k6,c6,tt,tv,rfl,h9⟩))
    go_wp2_with fail
    go_ret
    exact ⟨rfl,aW (aW HX.out h7.out) h9.out⟩
end
end Ew
end
end Go.Proofs.YtcdbhoknhnimcaaGreatDoor
