import Derived.Test.YthieaobjdpfcoaaGreatDoorVLaidU
import Derived.Test.YthieaobjdpfcoaaGreatDoorVEzg
import Derived.Test.YthieaobjdpfcoaaGreatDoorVNp2
import Derived.Test.YthieaobjdpfcoaaGreatDoorVEm
set_option maxRecDepth 100000
set_option maxHeartbeats 16000000
namespace Go.Proofs.YthieaobjdpfcoaaGreatDoor
section
open Go.RowKit Px
namespace Kx
theorem Wo {X:World}{fb T:Nat}{x y z:Value}(h:X.heap[fb]?=some (.cells #[x,y,z] T (0,0))) (a b c:Value):(((X.setCell ⟨fb,0,none⟩ a).setCell ⟨fb,1,none⟩ b).setCell ⟨fb,2,none⟩ c).heap[fb]?=some (.cells #[a,b,c] T (0,0)):=
 cH (l:=[a,b,z]) (cH (l:=[a,y,z]) (cH (l:=[x,y,z]) h 0 a) 1 b) 2 c
theorem oM {w X:World}{fb:Nat}(h:Below w.heap.size w X) (hb:w.heap.size≤fb) (a b c:Value):Below w.heap.size w (((X.setCell ⟨fb,0,none⟩ a).setCell ⟨fb,1,none⟩ b).setCell ⟨fb,2,none⟩ c):=
 ((h.setCell hb _).setCell hb _).setCell hb _
theorem Cj {s:ByteArray}{l:List Lx.fQ}{c:fZ}{w:World}(hs:s.size≤1500) (hv:rP w) (af:Lx.Ok (bs s) l) (ag:dJ (fin s l)=.ok c) :
    Calls Tryz.prog 18 #[.string s] w fun e w'=>(gI c=none/\∃S a n m a' n' m',e=.returned (.tuple #[.agg #[.string S,.slice a n m,.slice a' n' m'],.bool true])/\Hid (gQ (fun b=>w.heap.size<b) w' c (.agg #[.string S,.slice a n m,.slice a' n' m'])/\Below w.heap.size w w')) \/
     (gI c≠none/\e=.returned (.tuple #[.agg #[.string ⟨#[]⟩,.slice none 0 0,.slice none 0 0],.bool false])/\Hid (Below w.heap.size w w')):=by
 have hN:=O6 (xN af) ag
 obtain ⟨Y,O⟩:∃Y,Y=w.alloc (.cells #[.string ⟨#[]⟩,.slice none 0 0,.slice none 0 0] 47):=⟨_,rfl⟩
 have U:Below w.heap.size w Y:=by rw[O];exact aL w _
 have hp:Calls Tryz.prog 36 #[.string s] Y fun e w'=>∃S a n m a' n' m',e=.returned (.tuple #[.agg #[.string S,.slice a n m,.slice a' n' m'],.nilIface])/\Hid (gQ (fun b=>w.heap.size<b) w' c (.agg #[.string S,.slice a n m,.slice a' n' m'])/\Below Y.heap.size Y w'):=
  (Ql s l c Y (by omega) (hv.up U).big (hv.up U).tabs (hv.up U).marks af ag).mono fun e w' ⟨v,k,hC,hb⟩=>by
   obtain ⟨a,n,m,a',n',m',rfl,Q,h2⟩:=hC
   have kp:bB (Ge Y.heap.size) (fun b=>w.heap.size<b) w' w':=fun b aa _=>⟨by have h3:Y.heap.size≤b:=aa;rw[O] at h3;simp at h3;omega,rfl⟩
   exact ⟨_,a,n,m,a',n',m',k,⟨a,n,m,a',n',m',rfl,Q.carry kp,h2.carry kp (aM.carry kp 6)⟩,hb⟩
 have ac:Hid (_/\Y.heap[w.heap.size]?=some (.cells #[.string ⟨#[]⟩,.slice none 0 0,.slice none 0 0] 47 (0,0))):=⟨U,by rw[O];exact aX _ _⟩
 have aj:¬(1500:Int)<(s.size:Int):=by omega
 have HN:Hid _:=hN
 rw[O] at hp ac
 clear hN hv af ag O U
 go_enter Tryz.func18,Tryz.ntmps18
 go_wp2_with fail
 refine hp.mono ?_
 rintro e w1 ⟨S,a,n,m,a',n',m',rfl,Q⟩
 obtain ⟨I,J⟩:∃I,I=w1.alloc (.cells #[.string S,.slice a n m,.slice a' n' m'] 47):=⟨_,rfl⟩
 have ab:Below w1.heap.size w1 I:=by rw[J];exact aL w1 _
 have y:Hid (gQ (fun b=>w.heap.size<b) I c (.agg #[.string S,.slice a n m,.slice a' n' m'])/\Below w.heap.size w I/\I.heap[w.heap.size]?=some (.cells #[.string ⟨#[]⟩,.slice none 0 0,.slice none 0 0] 47 (0,0))/\I.heap[w1.heap.size]?=some (.cells #[.string S,.slice a n m,.slice a' n' m'] 47 (0,0))):=
  ⟨Ix Q.out.1 ab,aQ ac.out.1 (aQ Q.out.2 ab),aD (aQ Q.out.2 ab) ac.out.2,by rw[J];exact aX _ _⟩
 have j:=iU y.out.1 HN.out
 have x0:=aF y.out.2.2.2 0 (u:=.string S) rfl
 have x1:=aF y.out.2.2.2 1 (u:=.slice a n m) rfl
 have x2:=aF y.out.2.2.2 2 (u:=.slice a' n' m') rfl
 obtain ⟨o,Z⟩:∃o,Hid (gI c=o):=⟨_,rfl⟩
 rw[Z.out] at j
 rw[J] at j x0 x1 x2
 have ah:Hid _:=J
 clear hp ab J Q
 unfold Vh at j
 have ae:Hid (∀w',Below I.heap.size I w'->gQ (fun b=>w.heap.size<b) w' c (.agg #[.string S,.slice a n m,.slice a' n' m'])/\Below w.heap.size w w'/\w'.heap[w.heap.size]?=some (.cells #[.string ⟨#[]⟩,.slice none 0 0,.slice none 0 0] 47 (0,0))/\w'.heap[w1.heap.size]?=some (.cells #[.string S,.slice a n m,.slice a' n' m'] 47 (0,0))):=fun w' hb=>⟨Ix y.out.1 hb,aQ y.out.2.1 hb,aD hb y.out.2.2.1,aD hb y.out.2.2.2⟩
 go_wp2_with fail
 cases o with
 | none=>
  have D:Calls Tryz.prog 37 #[.agg #[.string S,.slice a n m,.slice a' n' m']] (w1.alloc (.cells #[.string S,.slice a n m,.slice a' n' m'] 47)) fun e w'=>e=.returned .nilIface/\Hid (Below I.heap.size I w'):=by
   rw[<-ah.out] at j ⊢
   exact j.mono fun e w' ⟨hb,Z⟩=>by
    rcases Z with ⟨_,k⟩|⟨_,k,_⟩|⟨_,_,_,k,_⟩
    ·exact ⟨k,hb⟩
    ·simp at k
    ·simp at k
  clear j x0 x1 x2
  refine D.mono ?_
  rintro e w2 ⟨rfl,X⟩
  obtain ⟨k1,k2,h,k4⟩:=ae.out w2 X.out
  have x0:=aF k4 0 (u:=.string S) rfl
  have x1:=aF k4 1 (u:=.slice a n m) rfl
  have x2:=aF k4 2 (u:=.slice a' n' m') rfl
  have f0:=aF h 0 (u:=.string ⟨#[]⟩) rfl
  have f1:=aF h 1 (u:=.slice none 0 0) rfl
  have f2:=aF h 2 (u:=.slice none 0 0) rfl
  have z0:=aG h 0
  have z1:=aG h 1
  have z2:=aG h 2
  have r:Hid (_/\_/\_):=⟨k2,h,k1⟩
  clear k1 k2 h k4 D
  go_wp2_with fail
  refine aY7 (pN _ _ w.heap.size #[.string S,.slice a n m,.slice a' n' m'] rfl rfl (Wo r.out.2.1 _ _ _)) rfl ?_
  refine .inl ⟨Z.out,S,a,n,m,a',n',m',rfl,?_,oM r.out.1 (aN4 _) _ _ _⟩
  obtain ⟨a2,n2,m2,a3,n3,m3,e,q1,q2⟩:=r.out.2.2
  have kp:bB (fun b=>w.heap.size<b) (fun b=>w.heap.size<b) w2 (((w2.setCell ⟨w.heap.size,0,none⟩ (.string S)).setCell ⟨w.heap.size,1,none⟩ (.slice a n m)).setCell ⟨w.heap.size,2,none⟩ (.slice a' n' m')):=fun b aa _=>⟨aa,by
   have ad:b≠w.heap.size:=by have:w.heap.size<b:=aa;omega
   rw[Below.heap_setCell _ _ _ _ ad,Below.heap_setCell _ _ _ _ ad,Below.heap_setCell _ _ _ _ ad]⟩
  exact ⟨a2,n2,m2,a3,n3,m3,e,q1.carry kp,q2.carry kp (aM.carry kp 6)⟩
 | some x=>
  obtain ⟨cc,pl⟩:=x
  have ai:Hid (gI c≠none):=by rw[Hid,Z.out];simp
  cases pl with
  | none=>
   have D:Calls Tryz.prog 37 #[.agg #[.string S,.slice a n m,.slice a' n' m']] (w1.alloc (.cells #[.string S,.slice a n m,.slice a' n' m'] 47)) fun e w'=>e=.returned (.iface 86 (.int .i64 ((cc:Nat):Int)))/\Hid (Below I.heap.size I w'):=by
    rw[<-ah.out] at j ⊢
    exact j.mono fun e w' ⟨hb,Z⟩=>by
     rcases Z with ⟨k,_⟩|⟨c',k,Q⟩|⟨_,_,_,k,_⟩
     ·simp at k
     ·simp at k
      subst k
      exact ⟨Q,hb⟩
     ·simp at k
   clear j x0 x1 x2
   refine D.mono ?_
   rintro e w2 ⟨rfl,X⟩
   obtain ⟨k1,k2,h,k4⟩:=ae.out w2 X.out
   have f0:=aF h 0 (u:=.string ⟨#[]⟩) rfl
   have f1:=aF h 1 (u:=.slice none 0 0) rfl
   have f2:=aF h 2 (u:=.slice none 0 0) rfl
   have z0:=aG h 0
   have z1:=aG h 1
   have z2:=aG h 2
   have r:Hid (_/\_):=⟨k2,h⟩
   clear k1 k2 h k4 D
   go_wp2_with fail
   refine aY7 (pN _ _ w.heap.size #[.string ⟨#[]⟩,.slice none 0 0,.slice none 0 0] rfl rfl (Wo r.out.2 _ _ _)) rfl ?_
   exact .inr ⟨ai.out,rfl,oM r.out.1 (aN4 _) _ _ _⟩
  | some p=>
   have D:Calls Tryz.prog 37 #[.agg #[.string S,.slice a n m,.slice a' n' m']] (w1.alloc (.cells #[.string S,.slice a n m,.slice a' n' m'] 47)) fun e w'=>∃g,e=.returned (.iface 89 (.pointer (some ⟨g,0,none⟩)))/\Hid (Below I.heap.size I w'):=by
    rw[<-ah.out] at j ⊢
    exact j.mono fun e w' ⟨hb,Z⟩=>by
     rcases Z with ⟨k,_⟩|⟨c',k,Q⟩|⟨c',p',g,k,Q,_⟩
     ·simp at k
     ·simp at k
     ·exact ⟨g,Q,hb⟩
   clear j x0 x1 x2
   refine D.mono ?_
   rintro e w2 ⟨ge,rfl,X⟩
   obtain ⟨k1,k2,h,k4⟩:=ae.out w2 X.out
   have f0:=aF h 0 (u:=.string ⟨#[]⟩) rfl
   have f1:=aF h 1 (u:=.slice none 0 0) rfl
   have f2:=aF h 2 (u:=.slice none 0 0) rfl
   have z0:=aG h 0
   have z1:=aG h 1
   have z2:=aG h 2
   have r:Hid (_/\_):=⟨k2,h⟩
   clear k1 k2 h k4 D
   go_wp2_with fail
   refine aY7 (pN _ _ w.heap.size #[.string ⟨#[]⟩,.slice none 0 0,.slice none 0 0] rfl rfl (Wo r.out.2 _ _ _)) rfl ?_
   exact .inr ⟨ai.out,rfl,oM r.out.1 (aN4 _) _ _ _⟩
theorem Gn {s:ByteArray}{w:World}(U:rP w) (r:s.size≤1500->∀l c,¬(Lx.Ok (bs s) l/\dJ (fin s l)=.ok c)) :
    Calls Tryz.prog 18 #[.string s] w fun e w'=>e=.returned (.tuple #[.agg #[.string ⟨#[]⟩,.slice none 0 0,.slice none 0 0],.bool false])/\Hid (Below w.heap.size w w'):=by
 have j:(w.alloc (.cells #[.string ⟨#[]⟩,.slice none 0 0,.slice none 0 0] 47)).heap[w.heap.size]?=some (.cells #[.string ⟨#[]⟩,.slice none 0 0,.slice none 0 0] 47 (0,0)):=aX _ _
 have Y:=aF j 0 (u:=.string ⟨#[]⟩) rfl
 have f1:=aF j 1 (u:=.slice none 0 0) rfl
 have f2:=aF j 2 (u:=.slice none 0 0) rfl
 have z0:=aG j 0
 have z1:=aG j 1
 have z2:=aG j 2
 have J:Hid _:=j
 by_cases hs:s.size≤1500
 ·have Q:¬(1500:Int)<(s.size:Int):=by omega
  have y:Below w.heap.size w (w.alloc (.cells #[.string ⟨#[]⟩,.slice none 0 0,.slice none 0 0] 47)):=aL w _
  have X:Calls Tryz.prog 36 #[.string s] (w.alloc (.cells #[.string ⟨#[]⟩,.slice none 0 0,.slice none 0 0] 47)) fun e w'=>∃g,e=.returned (.tuple #[.agg #[.string ⟨#[]⟩,.slice none 0 0,.slice none 0 0],.iface 89 (.pointer (some ⟨g,0,none⟩))])/\Hid (Below (w.alloc (.cells #[.string ⟨#[]⟩,.slice none 0 0,.slice none 0 0] 47)).heap.size (w.alloc (.cells #[.string ⟨#[]⟩,.slice none 0 0,.slice none 0 0] 47)) w'):=by
   have n:=U.up y
   by_cases hl:∃l,Lx.Ok (bs s) l
   ·obtain ⟨l,D⟩:=hl
    cases hch:dJ (fin s l) with
    | ok c=>exact absurd ⟨D,hch⟩ (r hs l c)
    | error f=>exact (Ky s l f _ (by omega) n.big n.tabs n.marks D hch).mono fun e w' ⟨g,he,_,hb⟩=>⟨g,he,hb⟩
   ·exact (Kz s _ (by omega) n.marks (fun l h=>hl ⟨l,h⟩)).mono fun e w' ⟨_,_,g,he,_,_,hb⟩=>⟨g,he,hb⟩
  clear U r y j Y f1 f2 z0 z1 z2
  go_enter Tryz.func18,Tryz.ntmps18
  go_wp2_with fail
  refine X.mono ?_
  rintro e w1 ⟨g,rfl,I⟩
  have k:(w1.alloc (.cells #[.string ⟨#[]⟩,.slice none 0 0,.slice none 0 0] 47)).heap[w.heap.size]?=some (.cells #[.string ⟨#[]⟩,.slice none 0 0,.slice none 0 0] 47 (0,0)):=eB (aD I.out J.out)
  have Y:=aF k 0 (u:=.string ⟨#[]⟩) rfl
  have f1:=aF k 1 (u:=.slice none 0 0) rfl
  have f2:=aF k 2 (u:=.slice none 0 0) rfl
  have z0:=aG k 0
  have z1:=aG k 1
  have z2:=aG k 2
  have O:Hid _:=k
  clear k X
  go_wp2_with fail
  refine aY7 (pN _ _ w.heap.size #[.string ⟨#[]⟩,.slice none 0 0,.slice none 0 0] rfl rfl (Wo O.out _ _ _)) rfl ?_
  exact ⟨rfl,oM (aQ (aQ (aL _ _) I.out) (aL _ _)) (aN4 _) _ _ _⟩
 ·have Q:(1500:Int)<(s.size:Int):=by omega
  clear U r hs j
  go_enter Tryz.func18,Tryz.ntmps18
  go_wp2_with fail
  refine aY7 (pN _ _ w.heap.size #[.string ⟨#[]⟩,.slice none 0 0,.slice none 0 0] rfl rfl J.out) rfl ?_
  exact ⟨rfl,aL _ _⟩
end Kx
end
section
open Go.RowKit Px
namespace Ew
open Nx (Nt Sp eJ Ny)
structure Zx (A:Nat->Prop) (w:World) (n:Nt) (vF vI vO vK vN vC:Value):Prop where
 v:rE A w n vF vI vO vK vN vC
 s:Nx.jB n
 ok:Nx.fY n=(0,-1)
 nf:∀x∈n.first,jF x
 nn:∀x∈n.nums,jF x
theorem Xh {B:Nat}{w:World}{n:Nt}{vF vI vO vK vN vC:Value}(h:eJ B w n vF vI vO vK vN vC):rE (fun b=>b<B) w n vF vI vO vK vN vC:=⟨h.f,h.i,h.o,h.k,h.m,h.c⟩
theorem Hy {B:Nat}{w w':World}{n:Nt}{vF vI vO vK vN vC:Value}(h:eJ B w n vF vI vO vK vN vC) (hB:B≤w.heap.size) (hb:Below w.heap.size w w'):eJ w'.heap.size w' n vF vI vO vK vN vC:=h.below (hb.mono hB) (aO4 hB hb.size)
def Ze (B:Nat) (w:World) (e:Ending) (w':World):Prop:=∃(n:Nt) (e1 e2 e3 e4 e5 e6:Option Addr) (l1 o1 l2 o2 l3 o3 l4 o4 l5 o5 l6 o6:Nat) (b:Bool),e=.returned (.tuple #[.agg #[.int .i64 n.places,.slice e1 l1 o1,.slice e2 l2 o2,.slice e3 l3 o3,.slice e4 l4 o4,.slice e5 l5 o5,.slice e6 l6 o6],.bool b])/\Hid (Below w.heap.size w w'/\(b=true->Zx (fun x=>x<B\/w.heap.size≤x/\x<w'.heap.size) w' n (.slice e1 l1 o1) (.slice e2 l2 o2) (.slice e3 l3 o3) (.slice e4 l4 o4) (.slice e5 l5 o5) (.slice e6 l6 o6)))
theorem mY (h:Array Value) (W:World) (c:Nat) (j:Array Value) (v:Value) (hsz:j.size=7) (k:h[4]?.getD undef=.pointer (some ⟨c,0,none⟩)) (n:h[5]?.getD undef=v) (l:W.heap[c]?=some (.cells j 26 (0,0))) :
    (results Tryz.f8 h).run Tryz.prog W=.ok (.tuple #[.agg j,v]) W:=by
 simp[results,Tryz.results8,k,n,asAddr,xG hsz l]
section
variable {w:World}
theorem aJ5 {s:ByteArray}{n:Nt}{Z e2 e3 e4 e5 e6:Option Addr}{l1 o1 l2 o2 U o3 Y o4 l5 Q l6 o6 B:Nat}(hB:B≤w.heap.size) (hK:Kx.rP w) (hN:eJ B w n (.slice Z l1 o1) (.slice e2 l2 o2) (.slice e3 U o3) (.slice e4 Y o4) (.slice e5 l5 Q) (.slice e6 l6 o6)) (ba:∀x∈n.first,jF x) (bi:∀x∈n.nums,jF x) :
    Calls Tryz.prog 8 #[.string s,.agg #[.int .i64 n.places,.slice Z l1 o1,.slice e2 l2 o2,.slice e3 U o3,.slice e4 Y o4,.slice e5 l5 Q,.slice e6 l6 o6]] w (Ze B w):=by
 obtain ⟨pl,av⟩:∃pl,pl=n.places:=⟨_,rfl⟩
 have bc:Hid (pl=n.places):=av
 rw[<-av]
 obtain ⟨U1,ae⟩:∃U1,U1=w.alloc (.cells #[.int .i64 pl,.slice Z l1 o1,.slice e2 l2 o2,.slice e3 U o3,.slice e4 Y o4,.slice e5 l5 Q,.slice e6 l6 o6] 26):=⟨_,rfl⟩
 obtain ⟨y,ac⟩:∃y,y=U1.alloc (.cells ZN 26):=⟨_,rfl⟩
 have s1:U1.heap.size=w.heap.size+1:=by rw[ae];simp
 have b1:Below w.heap.size w U1:=by rw[ae];exact aL _ _
 have b2:Below U1.heap.size U1 y:=by rw[ac];exact aL _ _
 have an:Below w.heap.size w y:=aQ b1 b2
 have HB:Hid (Below w.heap.size w y/\y.heap.size=w.heap.size+2/\y.heap[w.heap.size]?=some (.cells #[.int .i64 pl,.slice Z l1 o1,.slice e2 l2 o2,.slice e3 U o3,.slice e4 Y o4,.slice e5 l5 Q,.slice e6 l6 o6] 26 (0,0))/\y.heap[w.heap.size+1]?=some (.cells ZN 26 (0,0))):=⟨an,by rw[ac];simp[s1],aD b2 (by rw[ae];exact aX w _),by rw[<-s1,ac];exact aX U1 _⟩
 have HN:Hid (eJ B w n (.slice Z l1 o1) (.slice e2 l2 o2) (.slice e3 U o3) (.slice e4 Y o4) (.slice e5 l5 Q) (.slice e6 l6 o6)/\(∀x∈n.first,jF x)/\(∀x∈n.nums,jF x)/\B≤w.heap.size):=⟨hN,ba,bi,hB⟩
 have aa:Calls Tryz.prog 18 #[.string s] y fun e w'=>∃S a m p a' m' p' b,e=.returned (.tuple #[.agg #[.string S,.slice a m p,.slice a' m' p'],.bool b])/\Hid (Below y.heap.size y w'/\(b=true->∃c,Xj c/\gQ (fun x=>x<w'.heap.size) w' c (.agg #[.string S,.slice a m p,.slice a' m' p']))):=by
  by_cases h:s.size≤1500/\∃l c,Lx.Ok (bs s) l/\dJ (fin s l)=.ok c
  ·obtain ⟨hs,l,c,ay,bf⟩:=h
   refine (Kx.Cj hs (hK.up an) ay bf).mono fun e w' h=>?_
   rcases h with ⟨bm,S,a,m,p,a',m',p',he,h⟩|⟨_,he,h⟩
   ·refine ⟨S,a,m,p,a',m',p',true,he,h.out.2,fun _=>⟨c,emC ay bf bm,?_⟩⟩
    obtain ⟨p1,p2,p3,p4,p5,p6,p7,p8,p9⟩:=h.out.1
    have kp:bB (fun b=>y.heap.size<b) (fun b=>b<w'.heap.size) w' w':=fun x _ hl=>⟨hl,rfl⟩
    exact ⟨p1,p2,p3,p4,p5,p6,p7,p8.carry kp,p9.carry kp (aM.carry kp 6)⟩
   ·exact ⟨_,_,_,_,_,_,_,false,he,h.out,fun h=>absurd h (by simp)⟩
  ·exact (Kx.Gn (hK.up an) fun hs l c h'=>h ⟨hs,l,c,h'⟩).mono fun e w' ⟨he,h⟩=>⟨_,_,_,_,_,_,_,false,he,h.out,fun h=>absurd h (by simp)⟩
 rw[ae] at ac
 clear hK hN ba bi hB av s1 ae b1 b2 an
 go_enter Tryz.func8,Tryz.ntmps8
 go_upto_region 1 with fail
 rw[show (w.alloc (.cells #[.int .i64 pl,.slice Z l1 o1,.slice e2 l2 o2,.slice e3 U o3,.slice e4 Y o4,.slice e5 l5 Q,.slice e6 l6 o6] 26)).alloc (.cells #[.int .i64 0,.slice none 0 0,.slice none 0 0,.slice none 0 0,.slice none 0 0,.slice none 0 0,.slice none 0 0] 26)=y from ac.symm]
 clear ac
 go_upto_region 2 with (go_at_call 18;refine aa.mono ?_;rintro e w1 ⟨S,a,m,p,a',m',p',b,rfl,h1⟩)
 obtain ⟨V,hV⟩:∃V,V=w1.alloc (.cells #[.string S,.slice a m p,.slice a' m' p'] 47):=⟨_,rfl⟩
 obtain ⟨q6,ax⟩:∃q6,q6=w1.heap.size:=⟨_,rfl⟩
 have am:Below w1.heap.size w1 V:=by rw[hV];exact aL _ _
 have ao:V.heap[q6]?=some (.cells #[.string S,.slice a m p,.slice a' m' p'] 47 (0,0)):=by rw[hV,ax];exact aX w1 _
 have ah:Hid (Below y.heap.size y V/\(b=true->∃c,Xj c/\gQ (fun x=>x<V.heap.size) V c (.agg #[.string S,.slice a m p,.slice a' m' p']))):=⟨aQ h1.out.1 am,fun hb=>by
  obtain ⟨c,aj,p1,p2,p3,p4,p5,p6,p7,p8,p9⟩:=h1.out.2 hb
  have kp:bB (fun b=>b<w1.heap.size) (fun b=>b<V.heap.size) w1 V:=fun x _ hl=>⟨aO2 hl am.size,am.block x hl⟩
  exact ⟨c,aj,p1,p2,p3,p4,p5,p6,p7,p8.carry kp,p9.carry kp (aM.carry kp 6)⟩⟩
 have y0:=aF ao 0 (u:=.string S) rfl
 have y1:=aF ao 1 (u:=.slice a m p) rfl
 have y2:=aF ao 2 (u:=.slice a' m' p') rfl
 rw[<-hV,<-ax]
 clear hV ax am ao h1 aa
 go_upto_if 15 with fail
 go_cut [] (fun wx=>Hid (Below y.heap.size y wx))
 case first=>
  cases b with
  | false=>
   go_wp2_with fail
   go_meet
   case rel=>exact ah.out.1
  | true=>
   obtain ⟨c,aj,hC⟩:=ah.out.2 rfl
   have ai:Calls Tryz.prog 19 #[.agg #[.string S,.slice a m p,.slice a' m' p']] V fun e w'=>∃pn f1 f2 f3 f4 f5 f6 k1 c1 k2 c2 k3 c3 k4 c4 k5 c5 k6 c6 v,e=.returned (.tuple #[.agg #[.int .i64 pn,.slice f1 k1 c1,.slice f2 k2 c2,.slice f3 k3 c3,.slice f4 k4 c4,.slice f5 k5 c5,.slice f6 k6 c6],v])/\((v=.nilIface/\Hid (Below V.heap.size V w'/\∃N:Nt,pn=N.places/\rE (fun b=>V.heap.size≤b/\b<w'.heap.size) w' N (.slice f1 k1 c1) (.slice f2 k2 c2) (.slice f3 k3 c3) (.slice f4 k4 c4) (.slice f5 k5 c5) (.slice f6 k6 c6)/\wV N/\Nx.fY N=(0,-1)))\/∃t x,v=.iface t x/\Hid (Below V.heap.size V w')):=(aI8 hC (fun _ h=>h) aj).mono fun e w' h=>by
    obtain ⟨hb,⟨_,t,x,rfl⟩|⟨N,vF,vI,vO,vK,vN,vC,h,rfl,hN,hf,I⟩⟩:=h
    ·exact ⟨_,_,_,_,_,_,_,_,_,_,_,_,_,_,_,_,_,_,_,_,rfl,.inr ⟨t,x,rfl,hb⟩⟩
    ·obtain ⟨f1,_,_,c1,rfl,_⟩:=id hN.f
     obtain ⟨f2,_,_,c2,rfl,_⟩:=id hN.i
     obtain ⟨f3,_,_,c3,rfl,_⟩:=id hN.o
     obtain ⟨f4,_,_,c4,rfl,_⟩:=id hN.k
     obtain ⟨f5,_,_,c5,rfl,_⟩:=id hN.m
     obtain ⟨f6,_,_,c6,rfl,_⟩:=id hN.c
     exact ⟨_,_,_,_,_,_,_,_,_,_,_,_,_,_,_,_,_,_,_,_,rfl,.inl ⟨rfl,hb,N,rfl,hN,hf,I⟩⟩
   clear aj hC
   go_upto_region 4 with (go_at_call 19;refine ai.mono ?_;rintro e w2 ⟨pn,f1,f2,f3,f4,f5,f6,k1,c1,k2,c2,k3,c3,k4,c4,k5,c5,k6,c6,v,rfl,h2⟩)
   obtain ⟨V2,ag⟩:∃V2,V2=w2.alloc (.cells #[.int .i64 pn,.slice f1 k1 c1,.slice f2 k2 c2,.slice f3 k3 c3,.slice f4 k4 c4,.slice f5 k5 c5,.slice f6 k6 c6] 26):=⟨_,rfl⟩
   obtain ⟨q8,al⟩:∃q8,q8=w2.heap.size:=⟨_,rfl⟩
   have ab:Below w2.heap.size w2 V2:=by rw[ag];exact aL _ _
   have ar:V2.heap[q8]?=some (.cells #[.int .i64 pn,.slice f1 k1 c1,.slice f2 k2 c2,.slice f3 k3 c3,.slice f4 k4 c4,.slice f5 k5 c5,.slice f6 k6 c6] 26 (0,0)):=by rw[ag,al];exact aX w2 _
   rw[<-ag,<-al]
   rcases h2 with ⟨rfl,h2⟩|⟨tt,tv,rfl,h2⟩
   ·obtain ⟨bj,N,bg,az,be,bh⟩:=h2.out
    have au:Below y.heap.size y V2:=aQ (aQ ah.out.1 bj) ab
    have u1:=aD au HB.out.2.2.2
    have HF:Hid (Below w.heap.size w V2/\V2.heap[w.heap.size+1]?=some (.cells ZN 26 (0,0))/\rE (fun b=>V.heap.size≤b/\b<V2.heap.size) V2 N (.slice f1 k1 c1) (.slice f2 k2 c2) (.slice f3 k3 c3) (.slice f4 k4 c4) (.slice f5 k5 c5) (.slice f6 k6 c6)/\wV N/\Nx.fY N=(0,-1)/\w.heap.size+2≤V.heap.size/\pn=N.places):=⟨aQ HB.out.1 au,u1,az.carry fun b hb hl=>⟨⟨hb.1,aO2 hb.2 ab.size⟩,ab.block b hl⟩,be,bh,by have:=ah.out.1.size;have:=HB.out.2.1;omega,bg⟩
    obtain ⟨r0,r1,r2,r3,r4,r5,r6⟩:=gJ u1
    have rf:∀o,V2.frozen? ⟨w.heap.size+1,o,none⟩=false:=fun o=>aG u1 o
    obtain ⟨p0,p1,p2,p3,p4,p5,p6⟩:=gJ ar
    clear ag al ab ar au u1 h2 ai y0 y1 y2 bj bg az be bh
    go_wp2_with fail
    obtain ⟨X,hX⟩:∃X,X=((((((V2.setCell ⟨w.heap.size+1,0,none⟩ (.int .i64 pn)).setCell ⟨w.heap.size+1,1,none⟩ (.slice f1 k1 c1)).setCell ⟨w.heap.size+1,2,none⟩ (.slice f2 k2 c2)).setCell ⟨w.heap.size+1,3,none⟩ (.slice f3 k3 c3)).setCell ⟨w.heap.size+1,4,none⟩ (.slice f4 k4 c4)).setCell ⟨w.heap.size+1,5,none⟩ (.slice f5 k5 c5)).setCell ⟨w.heap.size+1,6,none⟩ (.slice f6 k6 c6):=⟨_,rfl⟩
    rw[<-hX]
    obtain ⟨z0,z1,z2,z3⟩:=Pk HF.out.2.1 hX
    clear hX
    refine aY7 (mY _ _ (w.heap.size+1) _ _ rfl rfl rfl z0) rfl ?_
    refine ⟨N,f1,f2,f3,f4,f5,f6,k1,c1,k2,c2,k3,c3,k4,c4,k5,c5,k6,c6,true,by rw[<-HF.out.2.2.2.2.2.2];rfl,z2 _ _ HF.out.1 (by omega),fun _=>⟨HF.out.2.2.1.carry (w':=X) fun b hb hl=>⟨.inr ⟨?_,by rw[z3];exact hb.2⟩,z1 b ?_⟩,pL HF.out.2.2.2.2.1,HF.out.2.2.2.2.1,HF.out.2.2.2.1.nf,HF.out.2.2.2.1.nn⟩⟩
    ·have:=HF.out.2.2.2.2.2.1;omega
    ·have:=HF.out.2.2.2.2.2.1;omega
   ·have HF:Hid (Below y.heap.size y V2):=aQ (aQ ah.out.1 h2.out) ab
    clear ag al ab ar h2 ai y0 y1 y2
    go_wp2_with fail
    go_meet
    case rel=>exact HF.out
 case rest=>
  have HT:Hid (Below w.heap.size w wc/\Below y.heap.size y wc):=⟨aQ HB.out.1 hcut.out,hcut.out⟩
  have ad:Hid (wc.heap[w.heap.size]?=some (.cells #[.int .i64 pl,.slice Z l1 o1,.slice e2 l2 o2,.slice e3 U o3,.slice e4 Y o4,.slice e5 l5 Q,.slice e6 l6 o6] 26 (0,0))/\wc.heap[w.heap.size+1]?=some (.cells ZN 26 (0,0))):=⟨aD hcut.out HB.out.2.2.1,aD hcut.out HB.out.2.2.2⟩
  obtain ⟨p0,p1,p2,p3,p4,p5,p6⟩:=gJ ad.out.1
  have r:=Nx.Sw _ n wc.drew _ _ _ _ _ _ (Hy HN.out.1 HN.out.2.2.2 (aQ HT.out.1 ((Below.refl _ wc).drew)))
  have I:=fun W (O:Below wc.heap.size wc W) (hs:Nx.jB n)=>Nx.iU W.heap.size n W _ _ _ _ _ _ (Hy HN.out.1 HN.out.2.2.2 (aQ HT.out.1 O)) (aN4 _) hs
  rw[<-bc.out] at r I
  have HF:Hid (∀(b:Bool) D,Below wc.heap.size wc D->(b=true->Nx.jB n/\Nx.fY n=(0,-1))->∀X,X=((((((D.setCell ⟨w.heap.size+1,0,none⟩ (.int .i64 pl)).setCell ⟨w.heap.size+1,1,none⟩ (.slice Z l1 o1)).setCell ⟨w.heap.size+1,2,none⟩ (.slice e2 l2 o2)).setCell ⟨w.heap.size+1,3,none⟩ (.slice e3 U o3)).setCell ⟨w.heap.size+1,4,none⟩ (.slice e4 Y o4)).setCell ⟨w.heap.size+1,5,none⟩ (.slice e5 l5 Q)).setCell ⟨w.heap.size+1,6,none⟩ (.slice e6 l6 o6)->X.heap[w.heap.size+1]?=some (.cells #[.int .i64 pl,.slice Z l1 o1,.slice e2 l2 o2,.slice e3 U o3,.slice e4 Y o4,.slice e5 l5 Q,.slice e6 l6 o6] 26 (0,0))/\Ze B w (.returned (.tuple #[.agg #[.int .i64 pl,.slice Z l1 o1,.slice e2 l2 o2,.slice e3 U o3,.slice e4 Y o4,.slice e5 l5 Q,.slice e6 l6 o6],.bool b])) X):=fun b D h8 hb X hX=>by
   obtain ⟨z0,z1,z2,z3⟩:=Pk (aD h8 ad.out.2) hX
   have bb:Below w.heap.size w X:=z2 _ _ (aQ HT.out.1 h8) (by omega)
   exact ⟨z0,n,Z,e2,e3,e4,e5,e6,l1,o1,l2,o2,U,o3,Y,o4,l5,Q,l6,o6,b,by rw[<-bc.out],bb,fun h=>⟨(Xh HN.out.1).carry fun b hb hl=>⟨.inl hb,bb.block b hl⟩,(hb h).1,(hb h).2,HN.out.2.1,HN.out.2.2.1⟩⟩
  have HZ:Hid (∀D,Below wc.heap.size wc D->D.heap[w.heap.size]?=some (.cells #[.int .i64 pl,.slice Z l1 o1,.slice e2 l2 o2,.slice e3 U o3,.slice e4 Y o4,.slice e5 l5 Q,.slice e6 l6 o6] 26 (0,0))/\D.heap[w.heap.size+1]?=some (.cells #[.int .i64 0,.slice none 0 0,.slice none 0 0,.slice none 0 0,.slice none 0 0,.slice none 0 0,.slice none 0 0] 26 (0,0))/\∀o,D.frozen? ⟨w.heap.size+1,o,none⟩=false):=fun D h=>⟨aD h ad.out.1,aD h ad.out.2,fun o=>aG (aD h ad.out.2) o⟩
  clear hcut
  go_upto_region 6 with fail
  by_cases hh:Ny n
  ·have j:Calls Tryz.prog 20 #[.agg #[.int .i64 pl,.slice Z l1 o1,.slice e2 l2 o2,.slice e3 U o3,.slice e4 Y o4,.slice e5 l5 Q,.slice e6 l6 o6]] wc.drew fun e w'=>e=.returned (.bool true)/\Hid (Below wc.heap.size wc w'):=r.mono fun e w' ⟨b,he,hb,hbl⟩=>by
    rw[hb.2 hh] at he;exact ⟨he,aQ ((Below.refl _ wc).drew) hbl⟩
   have aw:Hid (Nx.jB n):=hh.small
   clear r
   by_cases hc:Nx.fY n=(0,-1)
   ·have ak:Hid (Nx.fY n=(0,-1)):=hc
    have af:∀W,Below wc.heap.size wc W->Calls Tryz.prog 21 #[.agg #[.int .i64 pl,.slice Z l1 o1,.slice e2 l2 o2,.slice e3 U o3,.slice e4 Y o4,.slice e5 l5 Q,.slice e6 l6 o6]] W fun e w'=>e=.returned .nilIface/\Hid (Below wc.heap.size wc w'):=fun W O=>(I W O aw.out).mono fun e w' h=>by
     obtain ⟨v,rfl,he,hb⟩:=h
     rw[ak.out] at he
     rcases he with ⟨_,_,rfl⟩|⟨c1,_,_⟩|⟨c1,_⟩
     ·exact ⟨rfl,aQ O hb⟩
     ·exact absurd rfl c1
     ·exact absurd rfl c1
    clear hh hc I
    go_region_law (first
     | (go_simp;go_at_call 20;refine j.mono ?_;rintro e w7 ⟨rfl,h7⟩;obtain ⟨s0,s1,s2,s3,s4,s5,s6⟩:=gJ (HZ.out w7 h7.out).1;obtain ⟨t0,t1,t2,t3,t4,t5,t6⟩:=gJ (HZ.out w7 h7.out).2.1;have tf:=(HZ.out w7 h7.out).2.2;have ap:=af w7 h7.out)
     | (go_simp;go_at_call 21;refine ap.mono ?_;rintro e D ⟨rfl,h8⟩;obtain ⟨s0,s1,s2,s3,s4,s5,s6⟩:=gJ (HZ.out D h8.out).1;obtain ⟨t0,t1,t2,t3,t4,t5,t6⟩:=gJ (HZ.out D h8.out).2.1;have tf:=(HZ.out D h8.out).2.2))
    all_goals
     go_wp2_with fail
     obtain ⟨z0,J⟩:=HF.out true D h8.out (fun _=>⟨aw.out,ak.out⟩) _ rfl
     exact aY7 (mY _ _ (w.heap.size+1) _ _ rfl rfl rfl z0) rfl J
   ·have ak:Hid (Nx.fY n≠(0,-1)):=hc
    have af:∀W,Below wc.heap.size wc W->Calls Tryz.prog 21 #[.agg #[.int .i64 pl,.slice Z l1 o1,.slice e2 l2 o2,.slice e3 U o3,.slice e4 Y o4,.slice e5 l5 Q,.slice e6 l6 o6]] W fun e w'=>∃t v,e=.returned (.iface t v)/\Hid (Below wc.heap.size wc w'):=fun W O=>(I W O aw.out).mono fun e w' h=>by
     obtain ⟨v,rfl,he,hb⟩:=h
     rcases he with ⟨c1,c2,rfl⟩|⟨_,_,rfl⟩|⟨_,g,q,_,_,rfl,_⟩
     ·exact absurd (Prod.ext c1 c2) ak.out
     ·exact ⟨_,_,rfl,aQ O hb⟩
     ·exact ⟨_,_,rfl,aQ O hb⟩
    clear hh hc I
    go_region_law (first
     | (go_simp;go_at_call 20;refine j.mono ?_;rintro e w7 ⟨rfl,h7⟩;obtain ⟨s0,s1,s2,s3,s4,s5,s6⟩:=gJ (HZ.out w7 h7.out).1;obtain ⟨t0,t1,t2,t3,t4,t5,t6⟩:=gJ (HZ.out w7 h7.out).2.1;have tf:=(HZ.out w7 h7.out).2.2;have ap:=af w7 h7.out)
     | (go_simp;go_at_call 21;refine ap.mono ?_;rintro e D ⟨tt,tv,rfl,h8⟩;obtain ⟨s0,s1,s2,s3,s4,s5,s6⟩:=gJ (HZ.out D h8.out).1;obtain ⟨t0,t1,t2,t3,t4,t5,t6⟩:=gJ (HZ.out D h8.out).2.1;have tf:=(HZ.out D h8.out).2.2))
    all_goals
     go_wp2_with fail
     obtain ⟨z0,J⟩:=HF.out false D h8.out (fun h=>absurd h (by simp)) _ rfl
     exact aY7 (mY _ _ (w.heap.size+1) _ _ rfl rfl rfl z0) rfl J
  ·have j:Calls Tryz.prog 20 #[.agg #[.int .i64 pl,.slice Z l1 o1,.slice e2 l2 o2,.slice e3 U o3,.slice e4 Y o4,.slice e5 l5 Q,.slice e6 l6 o6]] wc.drew fun e w'=>e=.returned (.bool false)/\Hid (Below wc.heap.size wc w'):=r.mono fun e w' ⟨b,he,hb,hbl⟩=>by
    have bk:b=false:=by cases b with
     | false=>rfl
     | true=>exact absurd (hb.1 rfl) hh
    rw[bk] at he;exact ⟨he,aQ ((Below.refl _ wc).drew) hbl⟩
   clear r hh I
   go_region_law ((go_simp;go_at_call 20;refine j.mono ?_;rintro e w7 ⟨rfl,h7⟩;obtain ⟨s0,s1,s2,s3,s4,s5,s6⟩:=gJ (HZ.out w7 h7.out).1;obtain ⟨t0,t1,t2,t3,t4,t5,t6⟩:=gJ (HZ.out w7 h7.out).2.1;have tf:=(HZ.out w7 h7.out).2.2))
   all_goals
    go_wp2_with fail
    obtain ⟨z0,J⟩:=HF.out false w7 h7.out (fun h=>absurd h (by simp)) _ rfl
    exact aY7 (mY _ _ (w.heap.size+1) _ _ rfl rfl rfl z0) rfl J
end
open Nx (kK)
theorem Zi {w2:World}{c:Nat}{O b1 b2 b3 b4 b5 s a0 a1 y I a4 a5 J:Value}(hc:w2.heap[c]?=some (.cells #[O,b1,b2,b3,b4,b5,s] 26 (0,0))) {w3:World}(Q:w3=((((((w2.setCell ⟨c,0,none⟩ a0).setCell ⟨c,1,none⟩ a1).setCell ⟨c,2,none⟩ y).setCell ⟨c,3,none⟩ I).setCell ⟨c,4,none⟩ a4).setCell ⟨c,5,none⟩ a5).setCell ⟨c,6,none⟩ J) :
    w3.heap[c]?=some (.cells #[a0,a1,y,I,a4,a5,J] 26 (0,0))/\(∀k,k≠c->w3.heap[k]?=w2.heap[k]?)/\(∀B a,Below B a w2->B≤c->Below B a w3)/\w3.heap.size=w2.heap.size:=by
 have X:=cH (l:=[O,b1,b2,b3,b4,b5,s]) hc 0 a0
 have h1:=cH (l:=[a0,b1,b2,b3,b4,b5,s]) X 1 a1
 have U:=cH (l:=[a0,a1,b2,b3,b4,b5,s]) h1 2 y
 have Y:=cH (l:=[a0,a1,y,b3,b4,b5,s]) U 3 I
 have h4:=cH (l:=[a0,a1,y,I,b4,b5,s]) Y 4 a4
 have h5:=cH (l:=[a0,a1,y,I,a4,b5,s]) h4 5 a5
 have e:=cH (l:=[a0,a1,y,I,a4,a5,s]) h5 6 J
 have D:∀(W:World) (j:Nat) (u:Value) (k:Nat),k≠c->(W.setCell ⟨c,j,none⟩ u).heap[k]?=W.heap[k]?:=fun W j u k Z=>Below.heap_setCell _ _ _ _ Z
 have bl:∀(B:Nat) (a W:World) (j:Nat) (u:Value),Below B a W->B≤c->Below B a (W.setCell ⟨c,j,none⟩ u):=fun B a W j u h hB=>h.setCell (p:=⟨c,j,none⟩) hB u
 have sz:∀(W:World) (j:Nat) (u:Value),(W.setCell ⟨c,j,none⟩ u).heap.size=W.heap.size:=fun W j u=>by simp[World.setCell]
 rw[Q]
 refine ⟨e,fun k r=>?_,fun B a hb n=>?_,?_⟩
 ·rw[D _ _ _ _ r,D _ _ _ _ r,D _ _ _ _ r,D _ _ _ _ r,D _ _ _ _ r,D _ _ _ _ r,D _ _ _ _ r]
 ·exact bl _ _ _ _ _ (bl _ _ _ _ _ (bl _ _ _ _ _ (bl _ _ _ _ _ (bl _ _ _ _ _ (bl _ _ _ _ _ (bl _ _ _ _ _ hb n) n) n) n) n) n) n
 ·rw[sz,sz,sz,sz,sz,sz,sz]
theorem Nh {B:Nat}{n:Nt}{w:World}{vF vI vO vK vN vC:Value}(h:eJ B w n vF vI vO vK vN vC) (hB:B≤w.heap.size) (hr:kK n) :
    Calls Tryz.prog 21 #[.agg #[.int .i64 n.places,vF,vI,vO,vK,vN,vC]] w fun e w'=>e=.returned .nilIface/\Hid (Below w.heap.size w w'):=
 (Nx.iU B n w _ _ _ _ _ _ h hB hr.small).mono fun e w' h=>by
  obtain ⟨v,rfl,he,hb⟩:=h
  rw[Nx.Hn hr] at he
  rcases he with ⟨_,_,rfl⟩|⟨c1,_,_⟩|⟨c1,_⟩
  ·exact ⟨rfl,hb⟩
  ·exact absurd rfl c1
  ·exact absurd rfl c1
theorem yU {V:World}{b:Nat}{zs:List Int}{t:TypeId}(cap:Nat) (h:V.heap[b]?=some (.cells (zs.map (Value.int .i64)).toArray t (0,0))):Nx.bH (· < V.heap.size) V (.slice (some ⟨b,0,none⟩) zs.length cap) zs:=
 (show Nx.Own V (.slice (some ⟨b,0,none⟩) zs.length cap) zs b from ⟨_,cap,rfl,fun _=>⟨rfl,[],t,by rw[List.append_nil];exact h⟩⟩).ints fun _=>aB h
theorem Am {V:World}{A:Nat->Prop}:Nx.bH A V (.slice none 0 0) []:=⟨none,0,0,0,rfl,fun h=>absurd h (by simp),fun j hj=>absurd hj (by simp)⟩
theorem Lq {V:World}{b:Nat}{l:List Sp}{t:TypeId}(cap:Nat) (h:V.heap[b]?=some (.cells (l.flatMap rS).toArray t (0,0))):Nx.jA (· < V.heap.size) V (.slice (some ⟨b,0,none⟩) l.length cap) l:=by
 have at':∀j i,j<l.length->i<5->V.cell? ⟨b,0+j*5+i,none⟩=(rS (l.getD j Nx.eD))[i]?:=fun j i c k=>by
  rw[aX1,Nx.mR h,Tg l j i (l.getD j Nx.eD) (by rw[iO,aN3 c];rfl) k]
 exact ⟨_,b,0,cap,rfl,fun _=>⟨rfl,aB h⟩,fun j c=>⟨at' j 0 c (by omega),at' j 1 c (by omega),at' j 2 c (by omega),at' j 3 c (by omega),at' j 4 c (by omega)⟩⟩
theorem pJ {A:Nat->Prop}{V:World}{f:Option Addr}{k c:Nat}{l:List Sp}(h:Nx.jA A V (.slice f k c) l):k=l.length/\∃b off,(0<l.length->f=some ⟨b,off,none⟩)/\∀j,j<l.length->V.cell? ⟨b,off+j*5,none⟩=some (.int .i64 (l.getD j Nx.eD).code)/\V.cell? ⟨b,off+j*5+1,none⟩=some (.int .i64 (l.getD j Nx.eD).dst)/\V.cell? ⟨b,off+j*5+2,none⟩=some (.int .i64 (l.getD j Nx.eD).a)/\V.cell? ⟨b,off+j*5+3,none⟩=some (.int .i64 (l.getD j Nx.eD).b)/\V.cell? ⟨b,off+j*5+4,none⟩=some (.int .i64 (l.getD j Nx.eD).c):=by
 obtain ⟨u,b,off,cap,e,s,r⟩:=h
 injection e with e1 e2 e3
 subst e1
 exact ⟨e2,b,off,fun n=>(s n).1,r⟩
structure Bx (q:Nat) (w W:World) (n:Nt) (vF vI vO vK vN vC:Value):Prop where
 bel:Below w.heap.size w W
 hq:q=w.heap.size
 b1:W.heap[q]?=some (.cells #[.int .i64 n.places,vF,vI,vO,vK,vN,vC] 26 (0,0))
 b2:W.heap[q+1]?=some (.cells ZN 26 (0,0))
theorem Bx.next {q:Nat}{w W W':World}{n:Nt}{vF vI vO vK vN vC:Value}(h:Bx q w W n vF vI vO vK vN vC) (hb:Below (q+2) W W'):Bx q w W' n vF vI vO vK vN vC:=
 ⟨h.bel.trans (hb.mono (by have:=h.hq;omega)),h.hq,by rw[hb.block q (by omega)];exact h.b1,by rw[hb.block (q+1) (by omega)];exact h.b2⟩
theorem Bx.size {q:Nat}{w W:World}{n:Nt}{vF vI vO vK vN vC:Value}(h:Bx q w W n vF vI vO vK vN vC):q+2≤W.heap.size:=by have:=aB h.b2;omega
theorem Bx.start (w:World) (n:Nt) (h c k r l j:Value):Bx w.heap.size w ((w.alloc (.cells #[.int .i64 n.places,h,c,k,r,l,j] 26)).alloc (.cells ZN 26)) n h c k r l j:=by
 have e:(w.alloc (.cells #[.int .i64 n.places,h,c,k,r,l,j] 26)).heap.size=w.heap.size+1:=by simp
 exact ⟨aQ (aL _ _) (aL _ _),rfl,aD (aL _ _) (aX w _),by rw[<-e];exact aX _ _⟩
theorem Bx.old {q B:Nat}{w W:World}{n m:Nt}{vF vI vO vK vN vC uF uI uO uK uN uC:Value}(h:Bx q w W n vF vI vO vK vN vC) (hB:B≤w.heap.size) (hN:eJ B w m uF uI uO uK uN uC):eJ B W m uF uI uO uK uN uC:=hN.below (h.bel.mono hB) (aN4 _)
theorem Ud {w w1 w2 X:World}{q B:Nat}{N:Nt}{Y:Int}{u r O s I j:Option Addr}{D d1 l d2 n d3 J d4 y d5 k d6:Nat}{b0 b1 b2 b3 b4 b5 Z:Value}(hB:B≤q) (hq:q<w1.heap.size) (hk:w2.heap[q]?=some (.cells #[b0,b1,b2,b3,b4,b5,Z] 26 (0,0))) (hX:X=((((((w2.setCell ⟨q,0,none⟩ (.int .i64 Y)).setCell ⟨q,1,none⟩ (.slice u D d1)).setCell ⟨q,2,none⟩ (.slice r l d2)).setCell ⟨q,3,none⟩ (.slice O n d3)).setCell ⟨q,4,none⟩ (.slice s J d4)).setCell ⟨q,5,none⟩ (.slice I y d5)).setCell ⟨q,6,none⟩ (.slice j k d6)) (U:Below w.heap.size w w2) (Q:w.heap.size≤q) :
    Below w.heap.size w X/\X.heap[q]?=some (.cells #[.int .i64 Y,.slice u D d1,.slice r l d2,.slice O n d3,.slice s J d4,.slice I y d5,.slice j k d6] 26 (0,0))/\(Zx (fun x=>x<B\/w1.heap.size≤x/\x<w2.heap.size) w2 N (.slice u D d1) (.slice r l d2) (.slice O n d3) (.slice s J d4) (.slice I y d5) (.slice j k d6)->eJ X.heap.size X N (.slice u D d1) (.slice r l d2) (.slice O n d3) (.slice s J d4) (.slice I y d5) (.slice j k d6)/\kK N/\(∀x∈N.first,jF x)/\∀x∈N.nums,jF x):=by
 obtain ⟨y0,e,y2,y3⟩:=Zi hk hX
 refine ⟨y2 _ _ U Q,y0,fun c=>⟨(c.v.carry (A':=fun x=>x<X.heap.size) (w':=X) fun x hx hl=>⟨by rw[y3];exact hl,e x ?_⟩).netV fun _ h=>h,Nx.Ho c.ok,c.nf,c.nn⟩⟩
 rcases hx with hx|hx<;>omega
end Ew
end
end Go.Proofs.YthieaobjdpfcoaaGreatDoor
