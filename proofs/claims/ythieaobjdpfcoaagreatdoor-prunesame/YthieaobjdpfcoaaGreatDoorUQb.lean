import Derived.Test.YthieaobjdpfcoaaGreatDoorULaidU
import Derived.Test.YthieaobjdpfcoaaGreatDoorUEzg
import Derived.Test.YthieaobjdpfcoaaGreatDoorUNp2
import Derived.Test.YthieaobjdpfcoaaGreatDoorUEm
set_option maxRecDepth 100000
set_option maxHeartbeats 16000000
namespace Go.Proofs.YthieaobjdpfcoaaGreatDoor
section
open Go.RowKit Px
namespace Kx
theorem Wo {X:World}{fb T:Nat}{x y z:Value}(h:X.heap[fb]?=some (.cells #[x,y,z] T (0,0))) (a b c:Value):(((X.setCell ⟨fb,0,none⟩ a).setCell ⟨fb,1,none⟩ b).setCell ⟨fb,2,none⟩ c).heap[fb]?=some (.cells #[a,b,c] T (0,0)):=
 cH (l:=[a,b,z]) (cH (l:=[a,y,z]) (cH (l:=[x,y,z]) h 0 a) 1 b) 2 c
theorem oM {w X:World}{fb:Nat}(h:Below w.heap.size w X) (hb:w.heap.size≤fb) (a b c:Value):Below w.heap.size w (((X.setCell ⟨fb,0,none⟩ a).setCell ⟨fb,1,none⟩ b).setCell ⟨fb,2,none⟩ c):=
 ((h.setCell hb _).setCell hb _).setCell hb _
theorem Cj {s:ByteArray}{l:List Lx.fQ}{c:fZ}{w:World}(hs:s.size≤1500) (hv:rP w) (ah:Lx.Ok (bs s) l) (ac:dJ (fin s l)=.ok c) :
    Calls Tryz.prog 18 #[.string s] w fun e w'=>(gI c=none/\∃S a n m a' n' m',e=.returned (.tuple #[.agg #[.string S,.slice a n m,.slice a' n' m'],.bool true])/\Hid (gQ (fun b=>w.heap.size<b) w' c (.agg #[.string S,.slice a n m,.slice a' n' m'])/\Below w.heap.size w w')) \/
     (gI c≠none/\e=.returned (.tuple #[.agg #[.string ⟨#[]⟩,.slice none 0 0,.slice none 0 0],.bool false])/\Hid (Below w.heap.size w w')):=by
 have hN:=O6 (xN ah) ac
 obtain ⟨Y,O⟩:∃Y,Y=w.alloc (.cells #[.string ⟨#[]⟩,.slice none 0 0,.slice none 0 0] 47):=⟨_,rfl⟩
 have Q:Below w.heap.size w Y:=by rw[O];exact aC w _
 have hp:Calls Tryz.prog 36 #[.string s] Y fun e w'=>∃S a n m a' n' m',e=.returned (.tuple #[.agg #[.string S,.slice a n m,.slice a' n' m'],.nilIface])/\Hid (gQ (fun b=>w.heap.size<b) w' c (.agg #[.string S,.slice a n m,.slice a' n' m'])/\Below Y.heap.size Y w'):=
  (Ql s l c Y (by omega) (hv.up Q).big (hv.up Q).tabs (hv.up Q).marks ah ac).mono fun e w' ⟨v,k,hC,hb⟩=>by
   obtain ⟨a,n,m,a',n',m',rfl,X,h2⟩:=hC
   have kp:bB (Ge Y.heap.size) (fun b=>w.heap.size<b) w' w':=fun b aa _=>⟨by have h3:Y.heap.size≤b:=aa;rw[O] at h3;simp at h3;omega,rfl⟩
   exact ⟨_,a,n,m,a',n',m',k,⟨a,n,m,a',n',m',rfl,X.carry kp,h2.carry kp (aM.carry kp 6)⟩,hb⟩
 have af:Hid (_/\Y.heap[w.heap.size]?=some (.cells #[.string ⟨#[]⟩,.slice none 0 0,.slice none 0 0] 47 (0,0))):=⟨Q,by rw[O];exact aX _ _⟩
 have aj:¬(1500:Int)<(s.size:Int):=by omega
 have HN:Hid _:=hN
 rw[O] at hp af
 clear hN hv ah ac O Q
 go_enter Tryz.func18,Tryz.ntmps18
 go_wp2_with fail
 refine hp.mono ?_
 rintro e w1 ⟨S,a,n,m,a',n',m',rfl,X⟩
 obtain ⟨I,U⟩:∃I,I=w1.alloc (.cells #[.string S,.slice a n m,.slice a' n' m'] 47):=⟨_,rfl⟩
 have ab:Below w1.heap.size w1 I:=by rw[U];exact aC w1 _
 have D:Hid (gQ (fun b=>w.heap.size<b) I c (.agg #[.string S,.slice a n m,.slice a' n' m'])/\Below w.heap.size w I/\I.heap[w.heap.size]?=some (.cells #[.string ⟨#[]⟩,.slice none 0 0,.slice none 0 0] 47 (0,0))/\I.heap[w1.heap.size]?=some (.cells #[.string S,.slice a n m,.slice a' n' m'] 47 (0,0))):=
  ⟨Ix X.out.1 ab,aQ af.out.1 (aQ X.out.2 ab),aD (aQ X.out.2 ab) af.out.2,by rw[U];exact aX _ _⟩
 have j:=iU D.out.1 HN.out
 have x0:=aA D.out.2.2.2 0 (u:=.string S) rfl
 have x1:=aA D.out.2.2.2 1 (u:=.slice a n m) rfl
 have x2:=aA D.out.2.2.2 2 (u:=.slice a' n' m') rfl
 obtain ⟨o,Z⟩:∃o,Hid (gI c=o):=⟨_,rfl⟩
 rw[Z.out] at j
 rw[U] at j x0 x1 x2
 have ag:Hid _:=U
 clear hp ab U X
 unfold Vh at j
 have ad:Hid (∀w',Below I.heap.size I w'->gQ (fun b=>w.heap.size<b) w' c (.agg #[.string S,.slice a n m,.slice a' n' m'])/\Below w.heap.size w w'/\w'.heap[w.heap.size]?=some (.cells #[.string ⟨#[]⟩,.slice none 0 0,.slice none 0 0] 47 (0,0))/\w'.heap[w1.heap.size]?=some (.cells #[.string S,.slice a n m,.slice a' n' m'] 47 (0,0))):=fun w' hb=>⟨Ix D.out.1 hb,aQ D.out.2.1 hb,aD hb D.out.2.2.1,aD hb D.out.2.2.2⟩
 go_wp2_with fail
 cases o with
 | none=>
  have y:Calls Tryz.prog 37 #[.agg #[.string S,.slice a n m,.slice a' n' m']] (w1.alloc (.cells #[.string S,.slice a n m,.slice a' n' m'] 47)) fun e w'=>e=.returned .nilIface/\Hid (Below I.heap.size I w'):=by
   rw[<-ag.out] at j ⊢
   exact j.mono fun e w' ⟨hb,Z⟩=>by
    rcases Z with ⟨_,k⟩|⟨_,k,_⟩|⟨_,_,_,k,_⟩
    ·exact ⟨k,hb⟩
    ·simp at k
    ·simp at k
  clear j x0 x1 x2
  refine y.mono ?_
  rintro e w2 ⟨rfl,J⟩
  obtain ⟨k1,k2,h,k4⟩:=ad.out w2 J.out
  have x0:=aA k4 0 (u:=.string S) rfl
  have x1:=aA k4 1 (u:=.slice a n m) rfl
  have x2:=aA k4 2 (u:=.slice a' n' m') rfl
  have f0:=aA h 0 (u:=.string ⟨#[]⟩) rfl
  have f1:=aA h 1 (u:=.slice none 0 0) rfl
  have f2:=aA h 2 (u:=.slice none 0 0) rfl
  have z0:=aG h 0
  have z1:=aG h 1
  have z2:=aG h 2
  have r:Hid (_/\_/\_):=⟨k2,h,k1⟩
  clear k1 k2 h k4 y
  go_wp2_with fail
  refine aX5 (pN _ _ w.heap.size #[.string S,.slice a n m,.slice a' n' m'] rfl rfl (Wo r.out.2.1 _ _ _)) rfl ?_
  refine .inl ⟨Z.out,S,a,n,m,a',n',m',rfl,?_,oM r.out.1 (aF4 _) _ _ _⟩
  obtain ⟨a2,n2,m2,a3,n3,m3,e,q1,q2⟩:=r.out.2.2
  have kp:bB (fun b=>w.heap.size<b) (fun b=>w.heap.size<b) w2 (((w2.setCell ⟨w.heap.size,0,none⟩ (.string S)).setCell ⟨w.heap.size,1,none⟩ (.slice a n m)).setCell ⟨w.heap.size,2,none⟩ (.slice a' n' m')):=fun b aa _=>⟨aa,by
   have ae:b≠w.heap.size:=by have:w.heap.size<b:=aa;omega
   rw[Below.heap_setCell _ _ _ _ ae,Below.heap_setCell _ _ _ _ ae,Below.heap_setCell _ _ _ _ ae]⟩
  exact ⟨a2,n2,m2,a3,n3,m3,e,q1.carry kp,q2.carry kp (aM.carry kp 6)⟩
 | some x=>
  obtain ⟨cc,pl⟩:=x
  have ai:Hid (gI c≠none):=by rw[Hid,Z.out];simp
  cases pl with
  | none=>
   have y:Calls Tryz.prog 37 #[.agg #[.string S,.slice a n m,.slice a' n' m']] (w1.alloc (.cells #[.string S,.slice a n m,.slice a' n' m'] 47)) fun e w'=>e=.returned (.iface 86 (.int .i64 ((cc:Nat):Int)))/\Hid (Below I.heap.size I w'):=by
    rw[<-ag.out] at j ⊢
    exact j.mono fun e w' ⟨hb,Z⟩=>by
     rcases Z with ⟨k,_⟩|⟨c',k,X⟩|⟨_,_,_,k,_⟩
     ·simp at k
     ·simp at k
      subst k
      exact ⟨X,hb⟩
     ·simp at k
   clear j x0 x1 x2
   refine y.mono ?_
   rintro e w2 ⟨rfl,J⟩
   obtain ⟨k1,k2,h,k4⟩:=ad.out w2 J.out
   have f0:=aA h 0 (u:=.string ⟨#[]⟩) rfl
   have f1:=aA h 1 (u:=.slice none 0 0) rfl
   have f2:=aA h 2 (u:=.slice none 0 0) rfl
   have z0:=aG h 0
   have z1:=aG h 1
   have z2:=aG h 2
   have r:Hid (_/\_):=⟨k2,h⟩
   clear k1 k2 h k4 y
   go_wp2_with fail
   refine aX5 (pN _ _ w.heap.size #[.string ⟨#[]⟩,.slice none 0 0,.slice none 0 0] rfl rfl (Wo r.out.2 _ _ _)) rfl ?_
   exact .inr ⟨ai.out,rfl,oM r.out.1 (aF4 _) _ _ _⟩
  | some p=>
   have y:Calls Tryz.prog 37 #[.agg #[.string S,.slice a n m,.slice a' n' m']] (w1.alloc (.cells #[.string S,.slice a n m,.slice a' n' m'] 47)) fun e w'=>∃g,e=.returned (.iface 89 (.pointer (some ⟨g,0,none⟩)))/\Hid (Below I.heap.size I w'):=by
    rw[<-ag.out] at j ⊢
    exact j.mono fun e w' ⟨hb,Z⟩=>by
     rcases Z with ⟨k,_⟩|⟨c',k,X⟩|⟨c',p',g,k,X,_⟩
     ·simp at k
     ·simp at k
     ·exact ⟨g,X,hb⟩
   clear j x0 x1 x2
   refine y.mono ?_
   rintro e w2 ⟨ge,rfl,J⟩
   obtain ⟨k1,k2,h,k4⟩:=ad.out w2 J.out
   have f0:=aA h 0 (u:=.string ⟨#[]⟩) rfl
   have f1:=aA h 1 (u:=.slice none 0 0) rfl
   have f2:=aA h 2 (u:=.slice none 0 0) rfl
   have z0:=aG h 0
   have z1:=aG h 1
   have z2:=aG h 2
   have r:Hid (_/\_):=⟨k2,h⟩
   clear k1 k2 h k4 y
   go_wp2_with fail
   refine aX5 (pN _ _ w.heap.size #[.string ⟨#[]⟩,.slice none 0 0,.slice none 0 0] rfl rfl (Wo r.out.2 _ _ _)) rfl ?_
   exact .inr ⟨ai.out,rfl,oM r.out.1 (aF4 _) _ _ _⟩
theorem Gn {s:ByteArray}{w:World}(O:rP w) (r:s.size≤1500->∀l c,¬(Lx.Ok (bs s) l/\dJ (fin s l)=.ok c)) :
    Calls Tryz.prog 18 #[.string s] w fun e w'=>e=.returned (.tuple #[.agg #[.string ⟨#[]⟩,.slice none 0 0,.slice none 0 0],.bool false])/\Hid (Below w.heap.size w w'):=by
 have j:(w.alloc (.cells #[.string ⟨#[]⟩,.slice none 0 0,.slice none 0 0] 47)).heap[w.heap.size]?=some (.cells #[.string ⟨#[]⟩,.slice none 0 0,.slice none 0 0] 47 (0,0)):=aX _ _
 have Y:=aA j 0 (u:=.string ⟨#[]⟩) rfl
 have f1:=aA j 1 (u:=.slice none 0 0) rfl
 have f2:=aA j 2 (u:=.slice none 0 0) rfl
 have z0:=aG j 0
 have z1:=aG j 1
 have z2:=aG j 2
 have I:Hid _:=j
 by_cases hs:s.size≤1500
 ·have Q:¬(1500:Int)<(s.size:Int):=by omega
  have y:Below w.heap.size w (w.alloc (.cells #[.string ⟨#[]⟩,.slice none 0 0,.slice none 0 0] 47)):=aC w _
  have X:Calls Tryz.prog 36 #[.string s] (w.alloc (.cells #[.string ⟨#[]⟩,.slice none 0 0,.slice none 0 0] 47)) fun e w'=>∃g,e=.returned (.tuple #[.agg #[.string ⟨#[]⟩,.slice none 0 0,.slice none 0 0],.iface 89 (.pointer (some ⟨g,0,none⟩))])/\Hid (Below (w.alloc (.cells #[.string ⟨#[]⟩,.slice none 0 0,.slice none 0 0] 47)).heap.size (w.alloc (.cells #[.string ⟨#[]⟩,.slice none 0 0,.slice none 0 0] 47)) w'):=by
   have n:=O.up y
   by_cases hl:∃l,Lx.Ok (bs s) l
   ·obtain ⟨l,D⟩:=hl
    cases hch:dJ (fin s l) with
    | ok c=>exact absurd ⟨D,hch⟩ (r hs l c)
    | error f=>exact (Ky s l f _ (by omega) n.big n.tabs n.marks D hch).mono fun e w' ⟨g,he,_,hb⟩=>⟨g,he,hb⟩
   ·exact (Kz s _ (by omega) n.marks (fun l h=>hl ⟨l,h⟩)).mono fun e w' ⟨_,_,g,he,_,_,hb⟩=>⟨g,he,hb⟩
  clear O r y j Y f1 f2 z0 z1 z2
  go_enter Tryz.func18,Tryz.ntmps18
  go_wp2_with fail
  refine X.mono ?_
  rintro e w1 ⟨g,rfl,J⟩
  have k:(w1.alloc (.cells #[.string ⟨#[]⟩,.slice none 0 0,.slice none 0 0] 47)).heap[w.heap.size]?=some (.cells #[.string ⟨#[]⟩,.slice none 0 0,.slice none 0 0] 47 (0,0)):=eB (aD J.out I.out)
  have Y:=aA k 0 (u:=.string ⟨#[]⟩) rfl
  have f1:=aA k 1 (u:=.slice none 0 0) rfl
  have f2:=aA k 2 (u:=.slice none 0 0) rfl
  have z0:=aG k 0
  have z1:=aG k 1
  have z2:=aG k 2
  have U:Hid _:=k
  clear k X
  go_wp2_with fail
  refine aX5 (pN _ _ w.heap.size #[.string ⟨#[]⟩,.slice none 0 0,.slice none 0 0] rfl rfl (Wo U.out _ _ _)) rfl ?_
  exact ⟨rfl,oM (aQ (aQ (aC _ _) J.out) (aC _ _)) (aF4 _) _ _ _⟩
 ·have Q:(1500:Int)<(s.size:Int):=by omega
  clear O r hs j
  go_enter Tryz.func18,Tryz.ntmps18
  go_wp2_with fail
  refine aX5 (pN _ _ w.heap.size #[.string ⟨#[]⟩,.slice none 0 0,.slice none 0 0] rfl rfl I.out) rfl ?_
  exact ⟨rfl,aC _ _⟩
end Kx
end
section
open Go.RowKit Px
namespace Ew
open Nx (Nt Sp eJ Ny)
structure Zx (A:Nat->Prop) (w:World) (n:Nt) (vF vI vO vK vN vC:Value):Prop where
 v:rE A w n vF vI vO vK vN vC
 s:Nx.jB n
 ok:Nx.fY n=(0,-1)
 nf:∀x∈n.first,jF x
 nn:∀x∈n.nums,jF x
theorem Xh {B:Nat}{w:World}{n:Nt}{vF vI vO vK vN vC:Value}(h:eJ B w n vF vI vO vK vN vC):rE (fun b=>b<B) w n vF vI vO vK vN vC:=⟨h.f,h.i,h.o,h.k,h.m,h.c⟩
theorem Hy {B:Nat}{w w':World}{n:Nt}{vF vI vO vK vN vC:Value}(h:eJ B w n vF vI vO vK vN vC) (hB:B≤w.heap.size) (hb:Below w.heap.size w w'):eJ w'.heap.size w' n vF vI vO vK vN vC:=h.below (hb.mono hB) (aH5 hB hb.size)
def Ze (B:Nat) (w:World) (e:Ending) (w':World):Prop:=∃(n:Nt) (e1 e2 e3 e4 e5 e6:Option Addr) (l1 o1 l2 o2 l3 o3 l4 o4 l5 o5 l6 o6:Nat) (b:Bool),e=.returned (.tuple #[.agg #[.int .i64 n.places,.slice e1 l1 o1,.slice e2 l2 o2,.slice e3 l3 o3,.slice e4 l4 o4,.slice e5 l5 o5,.slice e6 l6 o6],.bool b])/\Hid (Below w.heap.size w w'/\(b=true->Zx (fun x=>x<B\/w.heap.size≤x/\x<w'.heap.size) w' n (.slice e1 l1 o1) (.slice e2 l2 o2) (.slice e3 l3 o3) (.slice e4 l4 o4) (.slice e5 l5 o5) (.slice e6 l6 o6)))
theorem mY (h:Array Value) (W:World) (c:Nat) (j:Array Value) (v:Value) (hsz:j.size=7) (k:h[4]?.getD undef=.pointer (some ⟨c,0,none⟩)) (l:h[5]?.getD undef=v) (n:W.heap[c]?=some (.cells j 26 (0,0))) :
    (results Tryz.f8 h).run Tryz.prog W=.ok (.tuple #[.agg j,v]) W:=by
 simp[results,Tryz.results8,k,l,asAddr,xG hsz n]
section
variable {w:World}
theorem Ue {s:ByteArray}{n:Nt}{e1 e2 e3 Y e5 e6:Option Addr}{l1 o1 l2 o2 l3 o3 Q o4 l5 o5 Z o6 B:Nat}(hB:B≤w.heap.size) (hK:Kx.rP w) (hN:eJ B w n (.slice e1 l1 o1) (.slice e2 l2 o2) (.slice e3 l3 o3) (.slice Y Q o4) (.slice e5 l5 o5) (.slice e6 Z o6)) (ba:∀x∈n.first,jF x) (bi:∀x∈n.nums,jF x) :
    Calls Tryz.prog 8 #[.string s,.agg #[.int .i64 n.places,.slice e1 l1 o1,.slice e2 l2 o2,.slice e3 l3 o3,.slice Y Q o4,.slice e5 l5 o5,.slice e6 Z o6]] w (Ze B w):=by
 obtain ⟨pl,av⟩:∃pl,pl=n.places:=⟨_,rfl⟩
 have bj:Hid (pl=n.places):=av
 rw[<-av]
 obtain ⟨U1,ag⟩:∃U1,U1=w.alloc (.cells #[.int .i64 pl,.slice e1 l1 o1,.slice e2 l2 o2,.slice e3 l3 o3,.slice Y Q o4,.slice e5 l5 o5,.slice e6 Z o6] 26):=⟨_,rfl⟩
 obtain ⟨r,ac⟩:∃r,r=U1.alloc (.cells ZN 26):=⟨_,rfl⟩
 have s1:U1.heap.size=w.heap.size+1:=by rw[ag];simp
 have b1:Below w.heap.size w U1:=by rw[ag];exact aC _ _
 have b2:Below U1.heap.size U1 r:=by rw[ac];exact aC _ _
 have an:Below w.heap.size w r:=aQ b1 b2
 have HB:Hid (Below w.heap.size w r/\r.heap.size=w.heap.size+2/\r.heap[w.heap.size]?=some (.cells #[.int .i64 pl,.slice e1 l1 o1,.slice e2 l2 o2,.slice e3 l3 o3,.slice Y Q o4,.slice e5 l5 o5,.slice e6 Z o6] 26 (0,0))/\r.heap[w.heap.size+1]?=some (.cells ZN 26 (0,0))):=⟨an,by rw[ac];simp[s1],aD b2 (by rw[ag];exact aX w _),by rw[<-s1,ac];exact aX U1 _⟩
 have HN:Hid (eJ B w n (.slice e1 l1 o1) (.slice e2 l2 o2) (.slice e3 l3 o3) (.slice Y Q o4) (.slice e5 l5 o5) (.slice e6 Z o6)/\(∀x∈n.first,jF x)/\(∀x∈n.nums,jF x)/\B≤w.heap.size):=⟨hN,ba,bi,hB⟩
 have aa:Calls Tryz.prog 18 #[.string s] r fun e w'=>∃S a m p a' m' p' b,e=.returned (.tuple #[.agg #[.string S,.slice a m p,.slice a' m' p'],.bool b])/\Hid (Below r.heap.size r w'/\(b=true->∃c,EmC c/\gQ (fun x=>x<w'.heap.size) w' c (.agg #[.string S,.slice a m p,.slice a' m' p']))):=by
  by_cases h:s.size≤1500/\∃l c,Lx.Ok (bs s) l/\dJ (fin s l)=.ok c
  ·obtain ⟨hs,l,c,bk,be⟩:=h
   refine (Kx.Cj hs (hK.up an) bk be).mono fun e w' h=>?_
   rcases h with ⟨bn,S,a,m,p,a',m',p',he,h⟩|⟨_,he,h⟩
   ·refine ⟨S,a,m,p,a',m',p',true,he,h.out.2,fun _=>⟨c,emC bk be bn,?_⟩⟩
    obtain ⟨p1,p2,p3,p4,p5,p6,p7,p8,p9⟩:=h.out.1
    have kp:bB (fun b=>r.heap.size<b) (fun b=>b<w'.heap.size) w' w':=fun x _ hl=>⟨hl,rfl⟩
    exact ⟨p1,p2,p3,p4,p5,p6,p7,p8.carry kp,p9.carry kp (aM.carry kp 6)⟩
   ·exact ⟨_,_,_,_,_,_,_,false,he,h.out,fun h=>absurd h (by simp)⟩
  ·exact (Kx.Gn (hK.up an) fun hs l c h'=>h ⟨hs,l,c,h'⟩).mono fun e w' ⟨he,h⟩=>⟨_,_,_,_,_,_,_,false,he,h.out,fun h=>absurd h (by simp)⟩
 rw[ag] at ac
 clear hK hN ba bi hB av s1 ag b1 b2 an
 go_enter Tryz.func8,Tryz.ntmps8
 go_upto_region 1 with fail
 rw[show (w.alloc (.cells #[.int .i64 pl,.slice e1 l1 o1,.slice e2 l2 o2,.slice e3 l3 o3,.slice Y Q o4,.slice e5 l5 o5,.slice e6 Z o6] 26)).alloc (.cells #[.int .i64 0,.slice none 0 0,.slice none 0 0,.slice none 0 0,.slice none 0 0,.slice none 0 0,.slice none 0 0] 26)=r from ac.symm]
 clear ac
 go_upto_region 2 with (go_at_call 18;refine aa.mono ?_;rintro e w1 ⟨S,a,m,p,a',m',p',b,rfl,h1⟩)
 obtain ⟨V,hV⟩:∃V,V=w1.alloc (.cells #[.string S,.slice a m p,.slice a' m' p'] 47):=⟨_,rfl⟩
 obtain ⟨q6,ar⟩:∃q6,q6=w1.heap.size:=⟨_,rfl⟩
 have ao:Below w1.heap.size w1 V:=by rw[hV];exact aC _ _
 have ak:V.heap[q6]?=some (.cells #[.string S,.slice a m p,.slice a' m' p'] 47 (0,0)):=by rw[hV,ar];exact aX w1 _
 have ai:Hid (Below r.heap.size r V/\(b=true->∃c,EmC c/\gQ (fun x=>x<V.heap.size) V c (.agg #[.string S,.slice a m p,.slice a' m' p']))):=⟨aQ h1.out.1 ao,fun hb=>by
  obtain ⟨c,aj,p1,p2,p3,p4,p5,p6,p7,p8,p9⟩:=h1.out.2 hb
  have kp:bB (fun b=>b<w1.heap.size) (fun b=>b<V.heap.size) w1 V:=fun x _ hl=>⟨aH3 hl ao.size,ao.block x hl⟩
  exact ⟨c,aj,p1,p2,p3,p4,p5,p6,p7,p8.carry kp,p9.carry kp (aM.carry kp 6)⟩⟩
 have y0:=aA ak 0 (u:=.string S) rfl
 have y1:=aA ak 1 (u:=.slice a m p) rfl
 have y2:=aA ak 2 (u:=.slice a' m' p') rfl
 rw[<-hV,<-ar]
 clear hV ar ao ak h1 aa
 go_upto_if 15 with fail
 go_cut [] (fun wx=>Hid (Below r.heap.size r wx))
 case first=>
  cases b with
  | false=>
   go_wp2_with fail
   go_meet
   case rel=>exact ai.out.1
  | true=>
   obtain ⟨c,aj,hC⟩:=ai.out.2 rfl
   have ah:Calls Tryz.prog 19 #[.agg #[.string S,.slice a m p,.slice a' m' p']] V fun e w'=>∃pn f1 f2 f3 f4 f5 f6 k1 c1 k2 c2 k3 c3 k4 c4 k5 c5 k6 c6 v,e=.returned (.tuple #[.agg #[.int .i64 pn,.slice f1 k1 c1,.slice f2 k2 c2,.slice f3 k3 c3,.slice f4 k4 c4,.slice f5 k5 c5,.slice f6 k6 c6],v])/\((v=.nilIface/\Hid (Below V.heap.size V w'/\∃N:Nt,pn=N.places/\rE (fun b=>V.heap.size≤b/\b<w'.heap.size) w' N (.slice f1 k1 c1) (.slice f2 k2 c2) (.slice f3 k3 c3) (.slice f4 k4 c4) (.slice f5 k5 c5) (.slice f6 k6 c6)/\wV N/\Nx.fY N=(0,-1)))\/∃t x,v=.iface t x/\Hid (Below V.heap.size V w')):=(Ty hC (fun _ h=>h) aj).mono fun e w' h=>by
    obtain ⟨hb,⟨_,t,x,rfl⟩|⟨N,vF,vI,vO,vK,vN,vC,h,rfl,hN,hf,I⟩⟩:=h
    ·exact ⟨_,_,_,_,_,_,_,_,_,_,_,_,_,_,_,_,_,_,_,_,rfl,.inr ⟨t,x,rfl,hb⟩⟩
    ·obtain ⟨f1,_,_,c1,rfl,_⟩:=id hN.f
     obtain ⟨f2,_,_,c2,rfl,_⟩:=id hN.i
     obtain ⟨f3,_,_,c3,rfl,_⟩:=id hN.o
     obtain ⟨f4,_,_,c4,rfl,_⟩:=id hN.k
     obtain ⟨f5,_,_,c5,rfl,_⟩:=id hN.m
     obtain ⟨f6,_,_,c6,rfl,_⟩:=id hN.c
     exact ⟨_,_,_,_,_,_,_,_,_,_,_,_,_,_,_,_,_,_,_,_,rfl,.inl ⟨rfl,hb,N,rfl,hN,hf,I⟩⟩
   clear aj hC
   go_upto_region 4 with (go_at_call 19;refine ah.mono ?_;rintro e w2 ⟨pn,f1,f2,f3,f4,f5,f6,k1,c1,k2,c2,k3,c3,k4,c4,k5,c5,k6,c6,v,rfl,h2⟩)
   obtain ⟨V2,ae⟩:∃V2,V2=w2.alloc (.cells #[.int .i64 pn,.slice f1 k1 c1,.slice f2 k2 c2,.slice f3 k3 c3,.slice f4 k4 c4,.slice f5 k5 c5,.slice f6 k6 c6] 26):=⟨_,rfl⟩
   obtain ⟨q8,am⟩:∃q8,q8=w2.heap.size:=⟨_,rfl⟩
   have ab:Below w2.heap.size w2 V2:=by rw[ae];exact aC _ _
   have aw:V2.heap[q8]?=some (.cells #[.int .i64 pn,.slice f1 k1 c1,.slice f2 k2 c2,.slice f3 k3 c3,.slice f4 k4 c4,.slice f5 k5 c5,.slice f6 k6 c6] 26 (0,0)):=by rw[ae,am];exact aX w2 _
   rw[<-ae,<-am]
   rcases h2 with ⟨rfl,h2⟩|⟨tt,tv,rfl,h2⟩
   ·obtain ⟨ay,N,bh,az,bb,bc⟩:=h2.out
    have ax:Below r.heap.size r V2:=aQ (aQ ai.out.1 ay) ab
    have u1:=aD ax HB.out.2.2.2
    have U:Hid (Below w.heap.size w V2/\V2.heap[w.heap.size+1]?=some (.cells ZN 26 (0,0))/\rE (fun b=>V.heap.size≤b/\b<V2.heap.size) V2 N (.slice f1 k1 c1) (.slice f2 k2 c2) (.slice f3 k3 c3) (.slice f4 k4 c4) (.slice f5 k5 c5) (.slice f6 k6 c6)/\wV N/\Nx.fY N=(0,-1)/\w.heap.size+2≤V.heap.size/\pn=N.places):=⟨aQ HB.out.1 ax,u1,az.carry fun b hb hl=>⟨⟨hb.1,aH3 hb.2 ab.size⟩,ab.block b hl⟩,bb,bc,by have:=ai.out.1.size;have:=HB.out.2.1;omega,bh⟩
    obtain ⟨r0,r1,r2,r3,r4,r5,r6⟩:=gJ u1
    have rf:∀o,V2.frozen? ⟨w.heap.size+1,o,none⟩=false:=fun o=>aG u1 o
    obtain ⟨p0,p1,p2,p3,p4,p5,p6⟩:=gJ aw
    clear ae am ab aw ax u1 h2 ah y0 y1 y2 ay bh az bb bc
    go_wp2_with fail
    obtain ⟨X,hX⟩:∃X,X=((((((V2.setCell ⟨w.heap.size+1,0,none⟩ (.int .i64 pn)).setCell ⟨w.heap.size+1,1,none⟩ (.slice f1 k1 c1)).setCell ⟨w.heap.size+1,2,none⟩ (.slice f2 k2 c2)).setCell ⟨w.heap.size+1,3,none⟩ (.slice f3 k3 c3)).setCell ⟨w.heap.size+1,4,none⟩ (.slice f4 k4 c4)).setCell ⟨w.heap.size+1,5,none⟩ (.slice f5 k5 c5)).setCell ⟨w.heap.size+1,6,none⟩ (.slice f6 k6 c6):=⟨_,rfl⟩
    rw[<-hX]
    obtain ⟨z0,z1,z2,z3⟩:=Pk U.out.2.1 hX
    clear hX
    refine aX5 (mY _ _ (w.heap.size+1) _ _ rfl rfl rfl z0) rfl ?_
    refine ⟨N,f1,f2,f3,f4,f5,f6,k1,c1,k2,c2,k3,c3,k4,c4,k5,c5,k6,c6,true,by rw[<-U.out.2.2.2.2.2.2];rfl,z2 _ _ U.out.1 (by omega),fun _=>⟨U.out.2.2.1.carry (w':=X) fun b hb hl=>⟨.inr ⟨?_,by rw[z3];exact hb.2⟩,z1 b ?_⟩,pL U.out.2.2.2.2.1,U.out.2.2.2.2.1,U.out.2.2.2.1.nf,U.out.2.2.2.1.nn⟩⟩
    ·have:=U.out.2.2.2.2.2.1;omega
    ·have:=U.out.2.2.2.2.2.1;omega
   ·have U:Hid (Below r.heap.size r V2):=aQ (aQ ai.out.1 h2.out) ab
    clear ae am ab aw h2 ah y0 y1 y2
    go_wp2_with fail
    go_meet
    case rel=>exact U.out
 case rest=>
  have HT:Hid (Below w.heap.size w wc/\Below r.heap.size r wc):=⟨aQ HB.out.1 hcut.out,hcut.out⟩
  have af:Hid (wc.heap[w.heap.size]?=some (.cells #[.int .i64 pl,.slice e1 l1 o1,.slice e2 l2 o2,.slice e3 l3 o3,.slice Y Q o4,.slice e5 l5 o5,.slice e6 Z o6] 26 (0,0))/\wc.heap[w.heap.size+1]?=some (.cells ZN 26 (0,0))):=⟨aD hcut.out HB.out.2.2.1,aD hcut.out HB.out.2.2.2⟩
  obtain ⟨p0,p1,p2,p3,p4,p5,p6⟩:=gJ af.out.1
  have y:=Nx.Sw _ n wc.drew _ _ _ _ _ _ (Hy HN.out.1 HN.out.2.2.2 (aQ HT.out.1 ((Below.refl _ wc).drew)))
  have I:=fun W (J:Below wc.heap.size wc W) (hs:Nx.jB n)=>Nx.iU W.heap.size n W _ _ _ _ _ _ (Hy HN.out.1 HN.out.2.2.2 (aQ HT.out.1 J)) (aF4 _) hs
  rw[<-bj.out] at y I
  have U:Hid (∀(b:Bool) D,Below wc.heap.size wc D->(b=true->Nx.jB n/\Nx.fY n=(0,-1))->∀X,X=((((((D.setCell ⟨w.heap.size+1,0,none⟩ (.int .i64 pl)).setCell ⟨w.heap.size+1,1,none⟩ (.slice e1 l1 o1)).setCell ⟨w.heap.size+1,2,none⟩ (.slice e2 l2 o2)).setCell ⟨w.heap.size+1,3,none⟩ (.slice e3 l3 o3)).setCell ⟨w.heap.size+1,4,none⟩ (.slice Y Q o4)).setCell ⟨w.heap.size+1,5,none⟩ (.slice e5 l5 o5)).setCell ⟨w.heap.size+1,6,none⟩ (.slice e6 Z o6)->X.heap[w.heap.size+1]?=some (.cells #[.int .i64 pl,.slice e1 l1 o1,.slice e2 l2 o2,.slice e3 l3 o3,.slice Y Q o4,.slice e5 l5 o5,.slice e6 Z o6] 26 (0,0))/\Ze B w (.returned (.tuple #[.agg #[.int .i64 pl,.slice e1 l1 o1,.slice e2 l2 o2,.slice e3 l3 o3,.slice Y Q o4,.slice e5 l5 o5,.slice e6 Z o6],.bool b])) X):=fun b D h8 hb X hX=>by
   obtain ⟨z0,z1,z2,z3⟩:=Pk (aD h8 af.out.2) hX
   have bf:Below w.heap.size w X:=z2 _ _ (aQ HT.out.1 h8) (by omega)
   exact ⟨z0,n,e1,e2,e3,Y,e5,e6,l1,o1,l2,o2,l3,o3,Q,o4,l5,o5,Z,o6,b,by rw[<-bj.out],bf,fun h=>⟨(Xh HN.out.1).carry fun b hb hl=>⟨.inl hb,bf.block b hl⟩,(hb h).1,(hb h).2,HN.out.2.1,HN.out.2.2.1⟩⟩
  have HZ:Hid (∀D,Below wc.heap.size wc D->D.heap[w.heap.size]?=some (.cells #[.int .i64 pl,.slice e1 l1 o1,.slice e2 l2 o2,.slice e3 l3 o3,.slice Y Q o4,.slice e5 l5 o5,.slice e6 Z o6] 26 (0,0))/\D.heap[w.heap.size+1]?=some (.cells #[.int .i64 0,.slice none 0 0,.slice none 0 0,.slice none 0 0,.slice none 0 0,.slice none 0 0,.slice none 0 0] 26 (0,0))/\∀o,D.frozen? ⟨w.heap.size+1,o,none⟩=false):=fun D h=>⟨aD h af.out.1,aD h af.out.2,fun o=>aG (aD h af.out.2) o⟩
  clear hcut
  go_upto_region 6 with fail
  by_cases hh:Ny n
  ·have j:Calls Tryz.prog 20 #[.agg #[.int .i64 pl,.slice e1 l1 o1,.slice e2 l2 o2,.slice e3 l3 o3,.slice Y Q o4,.slice e5 l5 o5,.slice e6 Z o6]] wc.drew fun e w'=>e=.returned (.bool true)/\Hid (Below wc.heap.size wc w'):=y.mono fun e w' ⟨b,he,hb,hbl⟩=>by
    rw[hb.2 hh] at he;exact ⟨he,aQ ((Below.refl _ wc).drew) hbl⟩
   have ap:Hid (Nx.jB n):=hh.small
   clear y
   by_cases hc:Nx.fY n=(0,-1)
   ·have al:Hid (Nx.fY n=(0,-1)):=hc
    have ad:∀W,Below wc.heap.size wc W->Calls Tryz.prog 21 #[.agg #[.int .i64 pl,.slice e1 l1 o1,.slice e2 l2 o2,.slice e3 l3 o3,.slice Y Q o4,.slice e5 l5 o5,.slice e6 Z o6]] W fun e w'=>e=.returned .nilIface/\Hid (Below wc.heap.size wc w'):=fun W J=>(I W J ap.out).mono fun e w' h=>by
     obtain ⟨v,rfl,he,hb⟩:=h
     rw[al.out] at he
     rcases he with ⟨_,_,rfl⟩|⟨c1,_,_⟩|⟨c1,_⟩
     ·exact ⟨rfl,aQ J hb⟩
     ·exact absurd rfl c1
     ·exact absurd rfl c1
    clear hh hc I
    go_region_law (first
     | (go_simp;go_at_call 20;refine j.mono ?_;rintro e w7 ⟨rfl,h7⟩;obtain ⟨s0,s1,s2,s3,s4,s5,s6⟩:=gJ (HZ.out w7 h7.out).1;obtain ⟨t0,t1,t2,t3,t4,t5,t6⟩:=gJ (HZ.out w7 h7.out).2.1;have tf:=(HZ.out w7 h7.out).2.2;have au:=ad w7 h7.out)
     | (go_simp;go_at_call 21;refine au.mono ?_;rintro e D ⟨rfl,h8⟩;obtain ⟨s0,s1,s2,s3,s4,s5,s6⟩:=gJ (HZ.out D h8.out).1;obtain ⟨t0,t1,t2,t3,t4,t5,t6⟩:=gJ (HZ.out D h8.out).2.1;have tf:=(HZ.out D h8.out).2.2))
    all_goals
     go_wp2_with fail
     obtain ⟨z0,O⟩:=U.out true D h8.out (fun _=>⟨ap.out,al.out⟩) _ rfl
     exact aX5 (mY _ _ (w.heap.size+1) _ _ rfl rfl rfl z0) rfl O
   ·have al:Hid (Nx.fY n≠(0,-1)):=hc
    have ad:∀W,Below wc.heap.size wc W->Calls Tryz.prog 21 #[.agg #[.int .i64 pl,.slice e1 l1 o1,.slice e2 l2 o2,.slice e3 l3 o3,.slice Y Q o4,.slice e5 l5 o5,.slice e6 Z o6]] W fun e w'=>∃t v,e=.returned (.iface t v)/\Hid (Below wc.heap.size wc w'):=fun W J=>(I W J ap.out).mono fun e w' h=>by
     obtain ⟨v,rfl,he,hb⟩:=h
     rcases he with ⟨c1,c2,rfl⟩|⟨_,_,rfl⟩|⟨_,g,q,_,_,rfl,_⟩
     ·exact absurd (Prod.ext c1 c2) al.out
     ·exact ⟨_,_,rfl,aQ J hb⟩
     ·exact ⟨_,_,rfl,aQ J hb⟩
    clear hh hc I
    go_region_law (first
     | (go_simp;go_at_call 20;refine j.mono ?_;rintro e w7 ⟨rfl,h7⟩;obtain ⟨s0,s1,s2,s3,s4,s5,s6⟩:=gJ (HZ.out w7 h7.out).1;obtain ⟨t0,t1,t2,t3,t4,t5,t6⟩:=gJ (HZ.out w7 h7.out).2.1;have tf:=(HZ.out w7 h7.out).2.2;have au:=ad w7 h7.out)
     | (go_simp;go_at_call 21;refine au.mono ?_;rintro e D ⟨tt,tv,rfl,h8⟩;obtain ⟨s0,s1,s2,s3,s4,s5,s6⟩:=gJ (HZ.out D h8.out).1;obtain ⟨t0,t1,t2,t3,t4,t5,t6⟩:=gJ (HZ.out D h8.out).2.1;have tf:=(HZ.out D h8.out).2.2))
    all_goals
     go_wp2_with fail
     obtain ⟨z0,O⟩:=U.out false D h8.out (fun h=>absurd h (by simp)) _ rfl
     exact aX5 (mY _ _ (w.heap.size+1) _ _ rfl rfl rfl z0) rfl O
  ·have j:Calls Tryz.prog 20 #[.agg #[.int .i64 pl,.slice e1 l1 o1,.slice e2 l2 o2,.slice e3 l3 o3,.slice Y Q o4,.slice e5 l5 o5,.slice e6 Z o6]] wc.drew fun e w'=>e=.returned (.bool false)/\Hid (Below wc.heap.size wc w'):=y.mono fun e w' ⟨b,he,hb,hbl⟩=>by
    have bm:b=false:=by cases b with
     | false=>rfl
     | true=>exact absurd (hb.1 rfl) hh
    rw[bm] at he;exact ⟨he,aQ ((Below.refl _ wc).drew) hbl⟩
   clear y hh I
   go_region_law ((go_simp;go_at_call 20;refine j.mono ?_;rintro e w7 ⟨rfl,h7⟩;obtain ⟨s0,s1,s2,s3,s4,s5,s6⟩:=gJ (HZ.out w7 h7.out).1;obtain ⟨t0,t1,t2,t3,t4,t5,t6⟩:=gJ (HZ.out w7 h7.out).2.1;have tf:=(HZ.out w7 h7.out).2.2))
   all_goals
    go_wp2_with fail
    obtain ⟨z0,O⟩:=U.out false w7 h7.out (fun h=>absurd h (by simp)) _ rfl
    exact aX5 (mY _ _ (w.heap.size+1) _ _ rfl rfl rfl z0) rfl O
end
end Ew
end
section
open Go.RowKit Px
namespace Ew
open Nx (Nt Sp eJ kK)
def Hb (n:Nt) (w:World) (e:Ending) (w':World):Prop:=∃(f1 f2 f3 f4 f5 f6:Option Addr) (k1 c1 k2 c2 k3 c3 k4 c4 k5 c5 k6 c6:Nat),e=.returned (.tuple #[.agg #[.int .i64 n.places,.slice f1 k1 c1,.slice f2 k2 c2,.slice f3 k3 c3,.slice f4 k4 c4,.slice f5 k5 c5,.slice f6 k6 c6],.nilIface])/\Hid (Below w.heap.size w w'/\eJ w'.heap.size w' n (.slice f1 k1 c1) (.slice f2 k2 c2) (.slice f3 k3 c3) (.slice f4 k4 c4) (.slice f5 k5 c5) (.slice f6 k6 c6))
theorem Zi {w2:World}{c:Nat}{O b1 b2 b3 b4 b5 s a0 a1 D I a4 a5 J:Value}(hc:w2.heap[c]?=some (.cells #[O,b1,b2,b3,b4,b5,s] 26 (0,0))) {w3:World}(hw:w3=((((((w2.setCell ⟨c,0,none⟩ a0).setCell ⟨c,1,none⟩ a1).setCell ⟨c,2,none⟩ D).setCell ⟨c,3,none⟩ I).setCell ⟨c,4,none⟩ a4).setCell ⟨c,5,none⟩ a5).setCell ⟨c,6,none⟩ J) :
    w3.heap[c]?=some (.cells #[a0,a1,D,I,a4,a5,J] 26 (0,0))/\(∀k,k≠c->w3.heap[k]?=w2.heap[k]?)/\(∀B a,Below B a w2->B≤c->Below B a w3)/\w3.heap.size=w2.heap.size:=by
 have U:=cH (l:=[O,b1,b2,b3,b4,b5,s]) hc 0 a0
 have h1:=cH (l:=[a0,b1,b2,b3,b4,b5,s]) U 1 a1
 have X:=cH (l:=[a0,a1,b2,b3,b4,b5,s]) h1 2 D
 have Y:=cH (l:=[a0,a1,D,b3,b4,b5,s]) X 3 I
 have e:=cH (l:=[a0,a1,D,I,b4,b5,s]) Y 4 a4
 have Z:=cH (l:=[a0,a1,D,I,a4,b5,s]) e 5 a5
 have Q:=cH (l:=[a0,a1,D,I,a4,a5,s]) Z 6 J
 have y:∀(W:World) (j:Nat) (u:Value) (k:Nat),k≠c->(W.setCell ⟨c,j,none⟩ u).heap[k]?=W.heap[k]?:=fun W j u k hk=>Below.heap_setCell _ _ _ _ hk
 have bl:∀(B:Nat) (a W:World) (j:Nat) (u:Value),Below B a W->B≤c->Below B a (W.setCell ⟨c,j,none⟩ u):=fun B a W j u h hB=>h.setCell (p:=⟨c,j,none⟩) hB u
 have sz:∀(W:World) (j:Nat) (u:Value),(W.setCell ⟨c,j,none⟩ u).heap.size=W.heap.size:=fun W j u=>by simp[World.setCell]
 rw[hw]
 refine ⟨Q,fun k r=>?_,fun B a hb n=>?_,?_⟩
 ·rw[y _ _ _ _ r,y _ _ _ _ r,y _ _ _ _ r,y _ _ _ _ r,y _ _ _ _ r,y _ _ _ _ r,y _ _ _ _ r]
 ·exact bl _ _ _ _ _ (bl _ _ _ _ _ (bl _ _ _ _ _ (bl _ _ _ _ _ (bl _ _ _ _ _ (bl _ _ _ _ _ (bl _ _ _ _ _ hb n) n) n) n) n) n) n
 ·rw[sz,sz,sz,sz,sz,sz,sz]
theorem Nh {B:Nat}{n:Nt}{w:World}{vF vI vO vK vN vC:Value}(h:eJ B w n vF vI vO vK vN vC) (hB:B≤w.heap.size) (hr:kK n) :
    Calls Tryz.prog 21 #[.agg #[.int .i64 n.places,vF,vI,vO,vK,vN,vC]] w fun e w'=>e=.returned .nilIface/\Hid (Below w.heap.size w w'):=
 (Nx.iU B n w _ _ _ _ _ _ h hB hr.small).mono fun e w' h=>by
  obtain ⟨v,rfl,he,hb⟩:=h
  rw[Nx.Hn hr] at he
  rcases he with ⟨_,_,rfl⟩|⟨c1,_,_⟩|⟨c1,_⟩
  ·exact ⟨rfl,hb⟩
  ·exact absurd rfl c1
  ·exact absurd rfl c1
theorem yU {V:World}{b:Nat}{zs:List Int}{t:TypeId}(cap:Nat) (h:V.heap[b]?=some (.cells (zs.map (Value.int .i64)).toArray t (0,0))):Nx.bH (· < V.heap.size) V (.slice (some ⟨b,0,none⟩) zs.length cap) zs:=
 (show Nx.Own V (.slice (some ⟨b,0,none⟩) zs.length cap) zs b from ⟨_,cap,rfl,fun _=>⟨rfl,[],t,by rw[List.append_nil];exact h⟩⟩).ints fun _=>aB h
theorem Am {V:World}{A:Nat->Prop}:Nx.bH A V (.slice none 0 0) []:=⟨none,0,0,0,rfl,fun h=>absurd h (by simp),fun j hj=>absurd hj (by simp)⟩
theorem Lq {V:World}{b:Nat}{l:List Sp}{t:TypeId}(cap:Nat) (h:V.heap[b]?=some (.cells (l.flatMap rS).toArray t (0,0))):Nx.jA (· < V.heap.size) V (.slice (some ⟨b,0,none⟩) l.length cap) l:=by
 have at':∀j i,j<l.length->i<5->V.cell? ⟨b,0+j*5+i,none⟩=(rS (l.getD j Nx.eD))[i]?:=fun j i c k=>by
  rw[aP5,Nx.mR h,Tg l j i (l.getD j Nx.eD) (by rw[iO,aE5 c];rfl) k]
 exact ⟨_,b,0,cap,rfl,fun _=>⟨rfl,aB h⟩,fun j c=>⟨at' j 0 c (by omega),at' j 1 c (by omega),at' j 2 c (by omega),at' j 3 c (by omega),at' j 4 c (by omega)⟩⟩
theorem pJ {A:Nat->Prop}{V:World}{f:Option Addr}{k c:Nat}{l:List Sp}(h:Nx.jA A V (.slice f k c) l):k=l.length/\∃b off,(0<l.length->f=some ⟨b,off,none⟩)/\∀j,j<l.length->V.cell? ⟨b,off+j*5,none⟩=some (.int .i64 (l.getD j Nx.eD).code)/\V.cell? ⟨b,off+j*5+1,none⟩=some (.int .i64 (l.getD j Nx.eD).dst)/\V.cell? ⟨b,off+j*5+2,none⟩=some (.int .i64 (l.getD j Nx.eD).a)/\V.cell? ⟨b,off+j*5+3,none⟩=some (.int .i64 (l.getD j Nx.eD).b)/\V.cell? ⟨b,off+j*5+4,none⟩=some (.int .i64 (l.getD j Nx.eD).c):=by
 obtain ⟨u,b,off,cap,e,n,s⟩:=h
 injection e with e1 e2 e3
 subst e1
 exact ⟨e2,b,off,fun r=>(n r).1,s⟩
theorem tL {A:Nat->Prop}{V:World}{f:Option Addr}{k c:Nat}{l:List Int}(h:Nx.bH A V (.slice f k c) l):k=l.length/\∃b off,(0<l.length->f=some ⟨b,off,none⟩)/\∀j,j<l.length->V.cell? ⟨b,off+j,none⟩=some (.int .i64 (l.getD j 0)):=by
 obtain ⟨u,b,off,cap,e,n,s⟩:=h
 injection e with e1 e2 e3
 subst e1
 exact ⟨e2,b,off,fun r=>(n r).1,s⟩
structure Bx (q:Nat) (w W:World) (n:Nt) (vF vI vO vK vN vC:Value):Prop where
 bel:Below w.heap.size w W
 hq:q=w.heap.size
 b1:W.heap[q]?=some (.cells #[.int .i64 n.places,vF,vI,vO,vK,vN,vC] 26 (0,0))
 b2:W.heap[q+1]?=some (.cells ZN 26 (0,0))
theorem Bx.next {q:Nat}{w W W':World}{n:Nt}{vF vI vO vK vN vC:Value}(h:Bx q w W n vF vI vO vK vN vC) (hb:Below (q+2) W W'):Bx q w W' n vF vI vO vK vN vC:=
 ⟨h.bel.trans (hb.mono (by have:=h.hq;omega)),h.hq,by rw[hb.block q (by omega)];exact h.b1,by rw[hb.block (q+1) (by omega)];exact h.b2⟩
theorem Bx.size {q:Nat}{w W:World}{n:Nt}{vF vI vO vK vN vC:Value}(h:Bx q w W n vF vI vO vK vN vC):q+2≤W.heap.size:=by have:=aB h.b2;omega
theorem Bx.start (w:World) (n:Nt) (k r c h j l:Value):Bx w.heap.size w ((w.alloc (.cells #[.int .i64 n.places,k,r,c,h,j,l] 26)).alloc (.cells ZN 26)) n k r c h j l:=by
 have e:(w.alloc (.cells #[.int .i64 n.places,k,r,c,h,j,l] 26)).heap.size=w.heap.size+1:=by simp
 exact ⟨aQ (aC _ _) (aC _ _),rfl,aD (aC _ _) (aX w _),by rw[<-e];exact aX _ _⟩
theorem Bx.old {q B:Nat}{w W:World}{n m:Nt}{vF vI vO vK vN vC uF uI uO uK uN uC:Value}(h:Bx q w W n vF vI vO vK vN vC) (hB:B≤w.heap.size) (hN:eJ B w m uF uI uO uK uN uC):eJ B W m uF uI uO uK uN uC:=hN.below (h.bel.mono hB) (aF4 _)
theorem Ud {w w1 w2 X:World}{q B:Nat}{N:Nt}{pn:Int}{Z Q U l J s:Option Addr}{D n O Y e r k y I d5 u j:Nat}{b0 b1 b2 b3 b4 b5 b6:Value}(hB:B≤q) (hq:q<w1.heap.size) (hk:w2.heap[q]?=some (.cells #[b0,b1,b2,b3,b4,b5,b6] 26 (0,0))) (hX:X=((((((w2.setCell ⟨q,0,none⟩ (.int .i64 pn)).setCell ⟨q,1,none⟩ (.slice Z D n)).setCell ⟨q,2,none⟩ (.slice Q O Y)).setCell ⟨q,3,none⟩ (.slice U e r)).setCell ⟨q,4,none⟩ (.slice l k y)).setCell ⟨q,5,none⟩ (.slice J I d5)).setCell ⟨q,6,none⟩ (.slice s u j)) (aa:Below w.heap.size w w2) (ab:w.heap.size≤q) :
    Below w.heap.size w X/\X.heap[q]?=some (.cells #[.int .i64 pn,.slice Z D n,.slice Q O Y,.slice U e r,.slice l k y,.slice J I d5,.slice s u j] 26 (0,0))/\(Zx (fun x=>x<B\/w1.heap.size≤x/\x<w2.heap.size) w2 N (.slice Z D n) (.slice Q O Y) (.slice U e r) (.slice l k y) (.slice J I d5) (.slice s u j)->eJ X.heap.size X N (.slice Z D n) (.slice Q O Y) (.slice U e r) (.slice l k y) (.slice J I d5) (.slice s u j)/\kK N/\(∀x∈N.first,jF x)/\∀x∈N.nums,jF x):=by
 obtain ⟨y0,y1,y2,y3⟩:=Zi hk hX
 refine ⟨y2 _ _ aa ab,y0,fun c=>⟨(c.v.carry (A':=fun x=>x<X.heap.size) (w':=X) fun x hx hl=>⟨by rw[y3];exact hl,y1 x ?_⟩).netV fun _ h=>h,Nx.Ho c.ok,c.nf,c.nn⟩⟩
 rcases hx with hx|hx<;>omega
end Ew
end
end Go.Proofs.YthieaobjdpfcoaaGreatDoor
