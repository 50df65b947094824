import Derived.Test.YtcdbhoknhnimcaaGreatDoorTLaidU
import Derived.Test.YtcdbhoknhnimcaaGreatDoorTEzg
import Derived.Test.YtcdbhoknhnimcaaGreatDoorTNf
import Derived.Test.YtcdbhoknhnimcaaGreatDoorTQa
set_option maxRecDepth 100000
set_option maxHeartbeats 16000000
namespace Go.Proofs.YtcdbhoknhnimcaaGreatDoor
section
open Go.RowKit Px
namespace Kx
theorem Ue {X:World}{fb T:Nat}{x y z:Value}(h:X.heap[fb]?=some (.cells #[x,y,z] T (0,0))) (a b c:Value):(((X.setCell ⟨fb,0,none⟩ a).setCell ⟨fb,1,none⟩ b).setCell ⟨fb,2,none⟩ c).heap[fb]?=some (.cells #[a,b,c] T (0,0)):=
 bQ (l:=[a,b,z]) (bQ (l:=[a,y,z]) (bQ (l:=[x,y,z]) h 0 a) 1 b) 2 c
theorem nS {w X:World}{fb:Nat}(h:Below w.heap.size w X) (hb:w.heap.size≤fb) (a b c:Value):Below w.heap.size w (((X.setCell ⟨fb,0,none⟩ a).setCell ⟨fb,1,none⟩ b).setCell ⟨fb,2,none⟩ c):=
 ((h.setCell hb _).setCell hb _).setCell hb _
theorem Af {s:ByteArray}{l:List Lx.fK}{c:fU}{w:World}(hs:s.size≤1500) (hv:qX w) (hok:Lx.Ok (bs s) l) (hch:dH (fin s l)=.ok c) :
    Calls Tryz.prog 26 #[.string s] w fun e w'=>(fZ c=none/\∃S a n m a' n' m',e=.returned (.tuple #[.agg #[.string S,.slice a n m,.slice a' n' m'],.bool true])/\Hid (gJ (fun b=>w.heap.size<b) w' c (.agg #[.string S,.slice a n m,.slice a' n' m'])/\Below w.heap.size w w')) \/
     (fZ c≠none/\e=.returned (.tuple #[.agg #[.string ⟨#[]⟩,.slice none 0 0,.slice none 0 0],.bool false])/\Hid (Below w.heap.size w w')):=by
 have hN:=F2 (vU hok) hch
 obtain ⟨W0,hW0⟩:∃W0,W0=w.alloc (.cells #[.string ⟨#[]⟩,.slice none 0 0,.slice none 0 0] 52):=⟨_,rfl⟩
 have hb0:Below w.heap.size w W0:=by rw[hW0];exact aC w _
 have hp:Calls Tryz.prog 52 #[.string s] W0 fun e w'=>∃S a n m a' n' m',e=.returned (.tuple #[.agg #[.string S,.slice a n m,.slice a' n' m'],.nilIface])/\Hid (gJ (fun b=>w.heap.size<b) w' c (.agg #[.string S,.slice a n m,.slice a' n' m'])/\Below W0.heap.size W0 w'):=
  (Nq s l c W0 (by omega) (hv.up hb0).big (hv.up hb0).tabs (hv.up hb0).marks hok hch).mono fun e w' ⟨v,he,hC,hb⟩=>by
   obtain ⟨a,n,m,a',n',m',rfl,h1,h2⟩:=hC
   have kp:aX (Ge W0.heap.size) (fun b=>w.heap.size<b) w' w':=fun b hb' _=>⟨by have h3:W0.heap.size≤b:=hb';rw[hW0] at h3;simp at h3;omega,rfl⟩
   exact ⟨_,a,n,m,a',n',m',he,⟨a,n,m,a',n',m',rfl,h1.carry kp,h2.carry kp (aL.carry kp 6)⟩,hb⟩
 have HB0:Hid (_/\W0.heap[w.heap.size]?=some (.cells #[.string ⟨#[]⟩,.slice none 0 0,.slice none 0 0] 52 (0,0))):=⟨hb0,by rw[hW0];exact bE _ _⟩
 have hs1:¬(1500:Int)<(s.size:Int):=by omega
 have HN:Hid _:=hN
 rw[hW0] at hp HB0
 clear hN hv hok hch hW0 hb0
 go_enter Tryz.func26,Tryz.ntmps26
 go_wp2_with fail
 refine hp.mono ?_
 rintro e w1 ⟨S,a,n,m,a',n',m',rfl,h1⟩
 obtain ⟨W1,hW1⟩:∃W1,W1=w1.alloc (.cells #[.string S,.slice a n m,.slice a' n' m'] 52):=⟨_,rfl⟩
 have hb1:Below w1.heap.size w1 W1:=by rw[hW1];exact aC w1 _
 have HW1:Hid (gJ (fun b=>w.heap.size<b) W1 c (.agg #[.string S,.slice a n m,.slice a' n' m'])/\Below w.heap.size w W1/\W1.heap[w.heap.size]?=some (.cells #[.string ⟨#[]⟩,.slice none 0 0,.slice none 0 0] 52 (0,0))/\W1.heap[w1.heap.size]?=some (.cells #[.string S,.slice a n m,.slice a' n' m'] 52 (0,0))):=
  ⟨Gn h1.out.1 hb1,aN HB0.out.1 (aN h1.out.2 hb1),aH (aN h1.out.2 hb1) HB0.out.2,by rw[hW1];exact bE _ _⟩
 have hck:=iM HW1.out.1 HN.out
 have x0:=aA HW1.out.2.2.2 0 (u:=.string S) rfl
 have x1:=aA HW1.out.2.2.2 1 (u:=.slice a n m) rfl
 have x2:=aA HW1.out.2.2.2 2 (u:=.slice a' n' m') rfl
 obtain ⟨o,ho⟩:∃o,Hid (fZ c=o):=⟨_,rfl⟩
 rw[ho.out] at hck
 rw[hW1] at hck x0 x1 x2
 have HWE:Hid _:=hW1
 clear hp hb1 hW1 h1
 unfold Sr at hck
 have HKW:Hid (∀w',Below W1.heap.size W1 w'->gJ (fun b=>w.heap.size<b) w' c (.agg #[.string S,.slice a n m,.slice a' n' m'])/\Below w.heap.size w w'/\w'.heap[w.heap.size]?=some (.cells #[.string ⟨#[]⟩,.slice none 0 0,.slice none 0 0] 52 (0,0))/\w'.heap[w1.heap.size]?=some (.cells #[.string S,.slice a n m,.slice a' n' m'] 52 (0,0))):=fun w' hb=>⟨Gn HW1.out.1 hb,aN HW1.out.2.1 hb,aH hb HW1.out.2.2.1,aH hb HW1.out.2.2.2⟩
 go_wp2_with fail
 cases o with
 | none=>
  have hc2:Calls Tryz.prog 53 #[.agg #[.string S,.slice a n m,.slice a' n' m']] (w1.alloc (.cells #[.string S,.slice a n m,.slice a' n' m'] 52)) fun e w'=>e=.returned .nilIface/\Hid (Below W1.heap.size W1 w'):=by
   rw[<-HWE.out] at hck ⊢
   exact hck.mono fun e w' ⟨hb,ho⟩=>by
    rcases ho with ⟨_,he⟩|⟨_,he,_⟩|⟨_,_,_,he,_⟩
    ·exact ⟨he,hb⟩
    ·simp at he
    ·simp at he
  clear hck x0 x1 x2
  refine hc2.mono ?_
  rintro e w2 ⟨rfl,hb2⟩
  obtain ⟨k1,k2,k3,k4⟩:=HKW.out w2 hb2.out
  have x0:=aA k4 0 (u:=.string S) rfl
  have x1:=aA k4 1 (u:=.slice a n m) rfl
  have x2:=aA k4 2 (u:=.slice a' n' m') rfl
  have f0:=aA k3 0 (u:=.string ⟨#[]⟩) rfl
  have f1:=aA k3 1 (u:=.slice none 0 0) rfl
  have f2:=aA k3 2 (u:=.slice none 0 0) rfl
  have z0:=aE k3 0
  have z1:=aE k3 1
  have z2:=aE k3 2
  have HB2:Hid (_/\_/\_):=⟨k2,k3,k1⟩
  clear k1 k2 k3 k4 hc2
  go_wp2_with fail
  refine bodyPost_ret (oU _ _ w.heap.size #[.string S,.slice a n m,.slice a' n' m'] rfl rfl (Ue HB2.out.2.1 _ _ _)) rfl ?_
  refine .inl ⟨ho.out,S,a,n,m,a',n',m',rfl,?_,nS HB2.out.1 (Nat.le_refl _) _ _ _⟩
  obtain ⟨a2,n2,m2,a3,n3,m3,e,q1,q2⟩:=HB2.out.2.2
  have kp:aX (fun b=>w.heap.size<b) (fun b=>w.heap.size<b) w2 (((w2.setCell ⟨w.heap.size,0,none⟩ (.string S)).setCell ⟨w.heap.size,1,none⟩ (.slice a n m)).setCell ⟨w.heap.size,2,none⟩ (.slice a' n' m')):=fun b hb' _=>⟨hb',by
   have hne:b≠w.heap.size:=by have:w.heap.size<b:=hb';omega
   rw[Below.heap_setCell _ _ _ _ hne,Below.heap_setCell _ _ _ _ hne,Below.heap_setCell _ _ _ _ hne]⟩
  exact ⟨a2,n2,m2,a3,n3,m3,e,q1.carry kp,q2.carry kp (aL.carry kp 6)⟩
 | some x=>
  obtain ⟨cc,pl⟩:=x
  have HNE:Hid (fZ c≠none):=by rw[Hid,ho.out];simp
  cases pl with
  | none=>
   have hc2:Calls Tryz.prog 53 #[.agg #[.string S,.slice a n m,.slice a' n' m']] (w1.alloc (.cells #[.string S,.slice a n m,.slice a' n' m'] 52)) fun e w'=>e=.returned (.iface 94 (.int .i64 ((cc:Nat):Int)))/\Hid (Below W1.heap.size W1 w'):=by
    rw[<-HWE.out] at hck ⊢
    exact hck.mono fun e w' ⟨hb,ho⟩=>by
     rcases ho with ⟨he,_⟩|⟨c',he,h1⟩|⟨_,_,_,he,_⟩
     ·simp at he
     ·simp at he
      subst he
      exact ⟨h1,hb⟩
     ·simp at he
   clear hck x0 x1 x2
   refine hc2.mono ?_
   rintro e w2 ⟨rfl,hb2⟩
   obtain ⟨k1,k2,k3,k4⟩:=HKW.out w2 hb2.out
   have f0:=aA k3 0 (u:=.string ⟨#[]⟩) rfl
   have f1:=aA k3 1 (u:=.slice none 0 0) rfl
   have f2:=aA k3 2 (u:=.slice none 0 0) rfl
   have z0:=aE k3 0
   have z1:=aE k3 1
   have z2:=aE k3 2
   have HB2:Hid (_/\_):=⟨k2,k3⟩
   clear k1 k2 k3 k4 hc2
   go_wp2_with fail
   refine bodyPost_ret (oU _ _ w.heap.size #[.string ⟨#[]⟩,.slice none 0 0,.slice none 0 0] rfl rfl (Ue HB2.out.2 _ _ _)) rfl ?_
   exact .inr ⟨HNE.out,rfl,nS HB2.out.1 (Nat.le_refl _) _ _ _⟩
  | some p=>
   have hc2:Calls Tryz.prog 53 #[.agg #[.string S,.slice a n m,.slice a' n' m']] (w1.alloc (.cells #[.string S,.slice a n m,.slice a' n' m'] 52)) fun e w'=>∃g,e=.returned (.iface 115 (.pointer (some ⟨g,0,none⟩)))/\Hid (Below W1.heap.size W1 w'):=by
    rw[<-HWE.out] at hck ⊢
    exact hck.mono fun e w' ⟨hb,ho⟩=>by
     rcases ho with ⟨he,_⟩|⟨c',he,h1⟩|⟨c',p',g,he,h1,_⟩
     ·simp at he
     ·simp at he
     ·exact ⟨g,h1,hb⟩
   clear hck x0 x1 x2
   refine hc2.mono ?_
   rintro e w2 ⟨ge,rfl,hb2⟩
   obtain ⟨k1,k2,k3,k4⟩:=HKW.out w2 hb2.out
   have f0:=aA k3 0 (u:=.string ⟨#[]⟩) rfl
   have f1:=aA k3 1 (u:=.slice none 0 0) rfl
   have f2:=aA k3 2 (u:=.slice none 0 0) rfl
   have z0:=aE k3 0
   have z1:=aE k3 1
   have z2:=aE k3 2
   have HB2:Hid (_/\_):=⟨k2,k3⟩
   clear k1 k2 k3 k4 hc2
   go_wp2_with fail
   refine bodyPost_ret (oU _ _ w.heap.size #[.string ⟨#[]⟩,.slice none 0 0,.slice none 0 0] rfl rfl (Ue HB2.out.2 _ _ _)) rfl ?_
   exact .inr ⟨HNE.out,rfl,nS HB2.out.1 (Nat.le_refl _) _ _ _⟩
theorem Ee {s:ByteArray}{w:World}(hv:qX w) (hno:s.size≤1500->∀l c,¬(Lx.Ok (bs s) l/\dH (fin s l)=.ok c)) :
    Calls Tryz.prog 26 #[.string s] w fun e w'=>e=.returned (.tuple #[.agg #[.string ⟨#[]⟩,.slice none 0 0,.slice none 0 0],.bool false])/\Hid (Below w.heap.size w w'):=by
 have hfz:(w.alloc (.cells #[.string ⟨#[]⟩,.slice none 0 0,.slice none 0 0] 52)).heap[w.heap.size]?=some (.cells #[.string ⟨#[]⟩,.slice none 0 0,.slice none 0 0] 52 (0,0)):=bE _ _
 have f0:=aA hfz 0 (u:=.string ⟨#[]⟩) rfl
 have f1:=aA hfz 1 (u:=.slice none 0 0) rfl
 have f2:=aA hfz 2 (u:=.slice none 0 0) rfl
 have z0:=aE hfz 0
 have z1:=aE hfz 1
 have z2:=aE hfz 2
 have HFZ:Hid _:=hfz
 by_cases hs:s.size≤1500
 ·have hs1:¬(1500:Int)<(s.size:Int):=by omega
  have hb0:Below w.heap.size w (w.alloc (.cells #[.string ⟨#[]⟩,.slice none 0 0,.slice none 0 0] 52)):=aC w _
  have hp:Calls Tryz.prog 52 #[.string s] (w.alloc (.cells #[.string ⟨#[]⟩,.slice none 0 0,.slice none 0 0] 52)) fun e w'=>∃g,e=.returned (.tuple #[.agg #[.string ⟨#[]⟩,.slice none 0 0,.slice none 0 0],.iface 115 (.pointer (some ⟨g,0,none⟩))])/\Hid (Below (w.alloc (.cells #[.string ⟨#[]⟩,.slice none 0 0,.slice none 0 0] 52)).heap.size (w.alloc (.cells #[.string ⟨#[]⟩,.slice none 0 0,.slice none 0 0] 52)) w'):=by
   have hv0:=hv.up hb0
   by_cases hl:∃l,Lx.Ok (bs s) l
   ·obtain ⟨l,hok⟩:=hl
    cases hch:dH (fin s l) with
    | ok c=>exact absurd ⟨hok,hch⟩ (hno hs l c)
    | error f=>exact (Im s l f _ (by omega) hv0.big hv0.tabs hv0.marks hok hch).mono fun e w' ⟨g,he,_,hb⟩=>⟨g,he,hb⟩
   ·exact (Ip s _ (by omega) hv0.marks (fun l h=>hl ⟨l,h⟩)).mono fun e w' ⟨_,_,g,he,_,_,hb⟩=>⟨g,he,hb⟩
  clear hv hno hb0 hfz f0 f1 f2 z0 z1 z2
  go_enter Tryz.func26,Tryz.ntmps26
  go_wp2_with fail
  refine hp.mono ?_
  rintro e w1 ⟨g,rfl,hb1⟩
  have hfy:(w1.alloc (.cells #[.string ⟨#[]⟩,.slice none 0 0,.slice none 0 0] 52)).heap[w.heap.size]?=some (.cells #[.string ⟨#[]⟩,.slice none 0 0,.slice none 0 0] 52 (0,0)):=dW (aH hb1.out HFZ.out)
  have f0:=aA hfy 0 (u:=.string ⟨#[]⟩) rfl
  have f1:=aA hfy 1 (u:=.slice none 0 0) rfl
  have f2:=aA hfy 2 (u:=.slice none 0 0) rfl
  have z0:=aE hfy 0
  have z1:=aE hfy 1
  have z2:=aE hfy 2
  have HFY:Hid _:=hfy
  clear hfy hp
  go_wp2_with fail
  refine bodyPost_ret (oU _ _ w.heap.size #[.string ⟨#[]⟩,.slice none 0 0,.slice none 0 0] rfl rfl (Ue HFY.out _ _ _)) rfl ?_
  exact ⟨rfl,nS (aN (aN (aC _ _) hb1.out) (aC _ _)) (Nat.le_refl _) _ _ _⟩
 ·have hs1:(1500:Int)<(s.size:Int):=by omega
  clear hv hno hs hfz
  go_enter Tryz.func26,Tryz.ntmps26
  go_wp2_with fail
  refine bodyPost_ret (oU _ _ w.heap.size #[.string ⟨#[]⟩,.slice none 0 0,.slice none 0 0] rfl rfl HFZ.out) rfl ?_
  exact ⟨rfl,aC _ _⟩
end Kx
end
section
open Go.RowKit Px
namespace Ew
open Nx (Nt Sp eQ Lk)
structure Xt (A:Nat->Prop) (w:World) (n:Nt) (vF vI vO vK vN vC:Value):Prop where
 v:qL A w n vF vI vO vK vN vC
 s:Nx.iR n
 ok:Nx.fM n=(0,-1)
 nf:∀x∈n.first,eF x
 nn:∀x∈n.nums,eF x
theorem Uy {B:Nat}{w:World}{n:Nt}{vF vI vO vK vN vC:Value}(h:eQ B w n vF vI vO vK vN vC):qL (fun b=>b<B) w n vF vI vO vK vN vC:=⟨h.f,h.i,h.o,h.k,h.m,h.c⟩
theorem Fh {B:Nat}{w w':World}{n:Nt}{vF vI vO vK vN vC:Value}(h:eQ B w n vF vI vO vK vN vC) (hB:B≤w.heap.size) (hb:Below w.heap.size w w'):eQ w'.heap.size w' n vF vI vO vK vN vC:=h.below (hb.mono hB) (Nat.le_trans hB hb.size)
def aA9 (B:Nat) (w:World) (e:Ending) (w':World):Prop:=∃(n:Nt) (e1 e2 e3 e4 e5 e6:Option Addr) (l1 o1 l2 o2 l3 o3 l4 o4 l5 o5 l6 o6:Nat) (b:Bool),e=.returned (.tuple #[.agg #[.int .i64 n.places,.slice e1 l1 o1,.slice e2 l2 o2,.slice e3 l3 o3,.slice e4 l4 o4,.slice e5 l5 o5,.slice e6 l6 o6],.bool b])/\Hid (Below w.heap.size w w'/\(b=true->Xt (fun x=>x<B\/w.heap.size≤x/\x<w'.heap.size) w' n (.slice e1 l1 o1) (.slice e2 l2 o2) (.slice e3 l3 o3) (.slice e4 l4 o4) (.slice e5 l5 o5) (.slice e6 l6 o6)))
theorem mL (tmps:Array Value) (W:World) (c:Nat) (fc:Array Value) (v:Value) (hsz:fc.size=7) (hp:tmps[4]?.getD undef=.pointer (some ⟨c,0,none⟩)) (hq:tmps[5]?.getD undef=v) (hc:W.heap[c]?=some (.cells fc 26 (0,0))) :
    (results Tryz.f10 tmps).run Tryz.prog W=.ok (.tuple #[.agg fc,v]) W:=by
 simp[results,Tryz.results10,hp,hq,asAddr,vP hsz hc]
section
variable {w:World}
theorem Rn {s:ByteArray}{n:Nt}{e1 e2 e3 e4 e5 e6:Option Addr}{l1 o1 l2 o2 l3 o3 l4 o4 l5 o5 l6 o6 B:Nat}(hB:B≤w.heap.size) (hK:Kx.qX w) (hN:eQ B w n (.slice e1 l1 o1) (.slice e2 l2 o2) (.slice e3 l3 o3) (.slice e4 l4 o4) (.slice e5 l5 o5) (.slice e6 l6 o6)) (hnf:∀x∈n.first,eF x) (hnn:∀x∈n.nums,eF x) :
    Calls Tryz.prog 10 #[.string s,.agg #[.int .i64 n.places,.slice e1 l1 o1,.slice e2 l2 o2,.slice e3 l3 o3,.slice e4 l4 o4,.slice e5 l5 o5,.slice e6 l6 o6]] w (aA9 B w):=by
 obtain ⟨pl,hpl⟩:∃pl,pl=n.places:=⟨_,rfl⟩
 have HPL:Hid (pl=n.places):=hpl
 rw[<-hpl]
 obtain ⟨U1,hU1⟩:∃U1,U1=w.alloc (.cells #[.int .i64 pl,.slice e1 l1 o1,.slice e2 l2 o2,.slice e3 l3 o3,.slice e4 l4 o4,.slice e5 l5 o5,.slice e6 l6 o6] 26):=⟨_,rfl⟩
 obtain ⟨W0,hW0⟩:∃W0,W0=U1.alloc (.cells ZN 26):=⟨_,rfl⟩
 have s1:U1.heap.size=w.heap.size+1:=by rw[hU1];simp
 have b1:Below w.heap.size w U1:=by rw[hU1];exact aC _ _
 have b2:Below U1.heap.size U1 W0:=by rw[hW0];exact aC _ _
 have hb0:Below w.heap.size w W0:=aN b1 b2
 have HB:Hid (Below w.heap.size w W0/\W0.heap.size=w.heap.size+2/\W0.heap[w.heap.size]?=some (.cells #[.int .i64 pl,.slice e1 l1 o1,.slice e2 l2 o2,.slice e3 l3 o3,.slice e4 l4 o4,.slice e5 l5 o5,.slice e6 l6 o6] 26 (0,0))/\W0.heap[w.heap.size+1]?=some (.cells ZN 26 (0,0))):=⟨hb0,by rw[hW0];simp[s1],aH b2 (by rw[hU1];exact bE w _),by rw[<-s1,hW0];exact bE U1 _⟩
 have HN:Hid (eQ B w n (.slice e1 l1 o1) (.slice e2 l2 o2) (.slice e3 l3 o3) (.slice e4 l4 o4) (.slice e5 l5 o5) (.slice e6 l6 o6)/\(∀x∈n.first,eF x)/\(∀x∈n.nums,eF x)/\B≤w.heap.size):=⟨hN,hnf,hnn,hB⟩
 have hchart:Calls Tryz.prog 26 #[.string s] W0 fun e w'=>∃S a m p a' m' p' b,e=.returned (.tuple #[.agg #[.string S,.slice a m p,.slice a' m' p'],.bool b])/\Hid (Below W0.heap.size W0 w'/\(b=true->∃c,EmC c/\gJ (fun x=>x<w'.heap.size) w' c (.agg #[.string S,.slice a m p,.slice a' m' p']))):=by
  by_cases h:s.size≤1500/\∃l c,Lx.Ok (bs s) l/\dH (fin s l)=.ok c
  ·obtain ⟨hs,l,c,hok,hch⟩:=h
   refine (Kx.Af hs (hK.up hb0) hok hch).mono fun e w' h=>?_
   rcases h with ⟨hcc,S,a,m,p,a',m',p',he,h⟩|⟨_,he,h⟩
   ·refine ⟨S,a,m,p,a',m',p',true,he,h.out.2,fun _=>⟨c,emC hok hch hcc,?_⟩⟩
    obtain ⟨p1,p2,p3,p4,p5,p6,p7,p8,p9⟩:=h.out.1
    have kp:aX (fun b=>W0.heap.size<b) (fun b=>b<w'.heap.size) w' w':=fun x _ hl=>⟨hl,rfl⟩
    exact ⟨p1,p2,p3,p4,p5,p6,p7,p8.carry kp,p9.carry kp (aL.carry kp 6)⟩
   ·exact ⟨_,_,_,_,_,_,_,false,he,h.out,fun h=>absurd h (by simp)⟩
  ·exact (Kx.Ee (hK.up hb0) fun hs l c h'=>h ⟨hs,l,c,h'⟩).mono fun e w' ⟨he,h⟩=>⟨_,_,_,_,_,_,_,false,he,h.out,fun h=>absurd h (by simp)⟩
 rw[hU1] at hW0
 clear hK hN hnf hnn hB hpl s1 hU1 b1 b2 hb0
 go_enter Tryz.func10,Tryz.ntmps10
 go_upto_region 1 with fail
 rw[show (w.alloc (.cells #[.int .i64 pl,.slice e1 l1 o1,.slice e2 l2 o2,.slice e3 l3 o3,.slice e4 l4 o4,.slice e5 l5 o5,.slice e6 l6 o6] 26)).alloc (.cells #[.int .i64 0,.slice none 0 0,.slice none 0 0,.slice none 0 0,.slice none 0 0,.slice none 0 0,.slice none 0 0] 26)=W0 from hW0.symm]
 clear hW0
 go_upto_region 2 with (go_at_call 26;refine hchart.mono ?_;rintro e w1 ⟨S,a,m,p,a',m',p',b,rfl,h1⟩)
 obtain ⟨V,hV⟩:∃V,V=w1.alloc (.cells #[.string S,.slice a m p,.slice a' m' p'] 52):=⟨_,rfl⟩
 obtain ⟨q6,hq6⟩:∃q6,q6=w1.heap.size:=⟨_,rfl⟩
 have hbV:Below w1.heap.size w1 V:=by rw[hV];exact aC _ _
 have hkV:V.heap[q6]?=some (.cells #[.string S,.slice a m p,.slice a' m' p'] 52 (0,0)):=by rw[hV,hq6];exact bE w1 _
 have HBV:Hid (Below W0.heap.size W0 V/\(b=true->∃c,EmC c/\gJ (fun x=>x<V.heap.size) V c (.agg #[.string S,.slice a m p,.slice a' m' p']))):=⟨aN h1.out.1 hbV,fun hb=>by
  obtain ⟨c,hem,p1,p2,p3,p4,p5,p6,p7,p8,p9⟩:=h1.out.2 hb
  have kp:aX (fun b=>b<w1.heap.size) (fun b=>b<V.heap.size) w1 V:=fun x _ hl=>⟨Nat.lt_of_lt_of_le hl hbV.size,hbV.block x hl⟩
  exact ⟨c,hem,p1,p2,p3,p4,p5,p6,p7,p8.carry kp,p9.carry kp (aL.carry kp 6)⟩⟩
 have y0:=aA hkV 0 (u:=.string S) rfl
 have y1:=aA hkV 1 (u:=.slice a m p) rfl
 have y2:=aA hkV 2 (u:=.slice a' m' p') rfl
 rw[<-hV,<-hq6]
 clear hV hq6 hbV hkV h1 hchart
 go_upto_if 15 with fail
 go_cut [] (fun wx=>Hid (Below W0.heap.size W0 wx))
 case first=>
  cases b with
  | false=>
   go_wp2_with fail
   go_meet
   case rel=>exact HBV.out.1
  | true=>
   obtain ⟨c,hem,hC⟩:=HBV.out.2 rfl
   have hem':Calls Tryz.prog 27 #[.agg #[.string S,.slice a m p,.slice a' m' p']] V fun e w'=>∃pn f1 f2 f3 f4 f5 f6 k1 c1 k2 c2 k3 c3 k4 c4 k5 c5 k6 c6 v,e=.returned (.tuple #[.agg #[.int .i64 pn,.slice f1 k1 c1,.slice f2 k2 c2,.slice f3 k3 c3,.slice f4 k4 c4,.slice f5 k5 c5,.slice f6 k6 c6],v])/\((v=.nilIface/\Hid (Below V.heap.size V w'/\∃N:Nt,pn=N.places/\qL (fun b=>V.heap.size≤b/\b<w'.heap.size) w' N (.slice f1 k1 c1) (.slice f2 k2 c2) (.slice f3 k3 c3) (.slice f4 k4 c4) (.slice f5 k5 c5) (.slice f6 k6 c6)/\uY N/\Nx.fM N=(0,-1)))\/∃t x,v=.iface t x/\Hid (Below V.heap.size V w')):=(Rf hC (fun _ h=>h) hem).mono fun e w' h=>by
    obtain ⟨hb,⟨_,t,x,rfl⟩|⟨N,vF,vI,vO,vK,vN,vC,h,rfl,hN,hf,hck⟩⟩:=h
    ·exact ⟨_,_,_,_,_,_,_,_,_,_,_,_,_,_,_,_,_,_,_,_,rfl,.inr ⟨t,x,rfl,hb⟩⟩
    ·obtain ⟨f1,_,_,c1,rfl,_⟩:=id hN.f
     obtain ⟨f2,_,_,c2,rfl,_⟩:=id hN.i
     obtain ⟨f3,_,_,c3,rfl,_⟩:=id hN.o
     obtain ⟨f4,_,_,c4,rfl,_⟩:=id hN.k
     obtain ⟨f5,_,_,c5,rfl,_⟩:=id hN.m
     obtain ⟨f6,_,_,c6,rfl,_⟩:=id hN.c
     exact ⟨_,_,_,_,_,_,_,_,_,_,_,_,_,_,_,_,_,_,_,_,rfl,.inl ⟨rfl,hb,N,rfl,hN,hf,hck⟩⟩
   clear hem hC
   go_upto_region 4 with (go_at_call 27;refine hem'.mono ?_;rintro e w2 ⟨pn,f1,f2,f3,f4,f5,f6,k1,c1,k2,c2,k3,c3,k4,c4,k5,c5,k6,c6,v,rfl,h2⟩)
   obtain ⟨V2,hV2⟩:∃V2,V2=w2.alloc (.cells #[.int .i64 pn,.slice f1 k1 c1,.slice f2 k2 c2,.slice f3 k3 c3,.slice f4 k4 c4,.slice f5 k5 c5,.slice f6 k6 c6] 26):=⟨_,rfl⟩
   obtain ⟨q8,hq8⟩:∃q8,q8=w2.heap.size:=⟨_,rfl⟩
   have hb2:Below w2.heap.size w2 V2:=by rw[hV2];exact aC _ _
   have hk2:V2.heap[q8]?=some (.cells #[.int .i64 pn,.slice f1 k1 c1,.slice f2 k2 c2,.slice f3 k3 c3,.slice f4 k4 c4,.slice f5 k5 c5,.slice f6 k6 c6] 26 (0,0)):=by rw[hV2,hq8];exact bE w2 _
   rw[<-hV2,<-hq8]
   rcases h2 with ⟨rfl,h2⟩|⟨tt,tv,rfl,h2⟩
   ·obtain ⟨hbe,N,hpn,hNA,hNf,hNc⟩:=h2.out
    have hB2:Below W0.heap.size W0 V2:=aN (aN HBV.out.1 hbe) hb2
    have u1:=aH hB2 HB.out.2.2.2
    have HF:Hid (Below w.heap.size w V2/\V2.heap[w.heap.size+1]?=some (.cells ZN 26 (0,0))/\qL (fun b=>V.heap.size≤b/\b<V2.heap.size) V2 N (.slice f1 k1 c1) (.slice f2 k2 c2) (.slice f3 k3 c3) (.slice f4 k4 c4) (.slice f5 k5 c5) (.slice f6 k6 c6)/\uY N/\Nx.fM N=(0,-1)/\w.heap.size+2≤V.heap.size/\pn=N.places):=⟨aN HB.out.1 hB2,u1,hNA.carry fun b hb hl=>⟨⟨hb.1,Nat.lt_of_lt_of_le hb.2 hb2.size⟩,hb2.block b hl⟩,hNf,hNc,by have:=HBV.out.1.size;have:=HB.out.2.1;omega,hpn⟩
    obtain ⟨r0,r1,r2,r3,r4,r5,r6⟩:=gC u1
    have rf:∀o,V2.frozen? ⟨w.heap.size+1,o,none⟩=false:=fun o=>aE u1 o
    obtain ⟨p0,p1,p2,p3,p4,p5,p6⟩:=gC hk2
    clear hV2 hq8 hb2 hk2 hB2 u1 h2 hem' y0 y1 y2 hbe hpn hNA hNf hNc
    go_wp2_with fail
    obtain ⟨X,hX⟩:∃X,X=((((((V2.setCell ⟨w.heap.size+1,0,none⟩ (.int .i64 pn)).setCell ⟨w.heap.size+1,1,none⟩ (.slice f1 k1 c1)).setCell ⟨w.heap.size+1,2,none⟩ (.slice f2 k2 c2)).setCell ⟨w.heap.size+1,3,none⟩ (.slice f3 k3 c3)).setCell ⟨w.heap.size+1,4,none⟩ (.slice f4 k4 c4)).setCell ⟨w.heap.size+1,5,none⟩ (.slice f5 k5 c5)).setCell ⟨w.heap.size+1,6,none⟩ (.slice f6 k6 c6):=⟨_,rfl⟩
    rw[<-hX]
    obtain ⟨z0,z1,z2,z3⟩:=Ig HF.out.2.1 hX
    clear hX
    refine bodyPost_ret (mL _ _ (w.heap.size+1) _ _ rfl rfl rfl z0) rfl ?_
    refine ⟨N,f1,f2,f3,f4,f5,f6,k1,c1,k2,c2,k3,c3,k4,c4,k5,c5,k6,c6,true,by rw[<-HF.out.2.2.2.2.2.2];rfl,z2 _ _ HF.out.1 (by omega),fun _=>⟨HF.out.2.2.1.carry (w':=X) fun b hb hl=>⟨.inr ⟨?_,by rw[z3];exact hb.2⟩,z1 b ?_⟩,oQ HF.out.2.2.2.2.1,HF.out.2.2.2.2.1,HF.out.2.2.2.1.nf,HF.out.2.2.2.1.nn⟩⟩
    ·have:=HF.out.2.2.2.2.2.1;omega
    ·have:=HF.out.2.2.2.2.2.1;omega
   ·have HF:Hid (Below W0.heap.size W0 V2):=aN (aN HBV.out.1 h2.out) hb2
    clear hV2 hq8 hb2 hk2 h2 hem' y0 y1 y2
    go_wp2_with fail
    go_meet
    case rel=>exact HF.out
 case rest=>
  have HT:Hid (Below w.heap.size w wc/\Below W0.heap.size W0 wc):=⟨aN HB.out.1 hcut.out,hcut.out⟩
  have HKK:Hid (wc.heap[w.heap.size]?=some (.cells #[.int .i64 pl,.slice e1 l1 o1,.slice e2 l2 o2,.slice e3 l3 o3,.slice e4 l4 o4,.slice e5 l5 o5,.slice e6 l6 o6] 26 (0,0))/\wc.heap[w.heap.size+1]?=some (.cells ZN 26 (0,0))):=⟨aH hcut.out HB.out.2.2.1,aH hcut.out HB.out.2.2.2⟩
  obtain ⟨p0,p1,p2,p3,p4,p5,p6⟩:=gC HKK.out.1
  have hheld:=Nx.Pv _ n wc.drew _ _ _ _ _ _ (Fh HN.out.1 HN.out.2.2.2 (aN HT.out.1 ((Below.refl _ wc).drew)))
  have hck:=fun W (hbW:Below wc.heap.size wc W) (hs:Nx.iR n)=>Nx.iM W.heap.size n W _ _ _ _ _ _ (Fh HN.out.1 HN.out.2.2.2 (aN HT.out.1 hbW)) (Nat.le_refl _) hs
  rw[<-HPL.out] at hheld hck
  have HF:Hid (∀(b:Bool) w8,Below wc.heap.size wc w8->(b=true->Nx.iR n/\Nx.fM n=(0,-1))->∀X,X=((((((w8.setCell ⟨w.heap.size+1,0,none⟩ (.int .i64 pl)).setCell ⟨w.heap.size+1,1,none⟩ (.slice e1 l1 o1)).setCell ⟨w.heap.size+1,2,none⟩ (.slice e2 l2 o2)).setCell ⟨w.heap.size+1,3,none⟩ (.slice e3 l3 o3)).setCell ⟨w.heap.size+1,4,none⟩ (.slice e4 l4 o4)).setCell ⟨w.heap.size+1,5,none⟩ (.slice e5 l5 o5)).setCell ⟨w.heap.size+1,6,none⟩ (.slice e6 l6 o6)->X.heap[w.heap.size+1]?=some (.cells #[.int .i64 pl,.slice e1 l1 o1,.slice e2 l2 o2,.slice e3 l3 o3,.slice e4 l4 o4,.slice e5 l5 o5,.slice e6 l6 o6] 26 (0,0))/\aA9 B w (.returned (.tuple #[.agg #[.int .i64 pl,.slice e1 l1 o1,.slice e2 l2 o2,.slice e3 l3 o3,.slice e4 l4 o4,.slice e5 l5 o5,.slice e6 l6 o6],.bool b])) X):=fun b w8 h8 hb X hX=>by
   obtain ⟨z0,z1,z2,z3⟩:=Ig (aH h8 HKK.out.2) hX
   have hb9:Below w.heap.size w X:=z2 _ _ (aN HT.out.1 h8) (by omega)
   exact ⟨z0,n,e1,e2,e3,e4,e5,e6,l1,o1,l2,o2,l3,o3,l4,o4,l5,o5,l6,o6,b,by rw[<-HPL.out],hb9,fun h=>⟨(Uy HN.out.1).carry fun b hb hl=>⟨.inl hb,hb9.block b hl⟩,(hb h).1,(hb h).2,HN.out.2.1,HN.out.2.2.1⟩⟩
  have HZ:Hid (∀w8,Below wc.heap.size wc w8->w8.heap[w.heap.size]?=some (.cells #[.int .i64 pl,.slice e1 l1 o1,.slice e2 l2 o2,.slice e3 l3 o3,.slice e4 l4 o4,.slice e5 l5 o5,.slice e6 l6 o6] 26 (0,0))/\w8.heap[w.heap.size+1]?=some (.cells #[.int .i64 0,.slice none 0 0,.slice none 0 0,.slice none 0 0,.slice none 0 0,.slice none 0 0,.slice none 0 0] 26 (0,0))/\∀o,w8.frozen? ⟨w.heap.size+1,o,none⟩=false):=fun w8 h=>⟨aH h HKK.out.1,aH h HKK.out.2,fun o=>aE (aH h HKK.out.2) o⟩
  clear hcut
  go_upto_region 6 with fail
  by_cases hh:Lk n
  ·have hheld':Calls Tryz.prog 28 #[.agg #[.int .i64 pl,.slice e1 l1 o1,.slice e2 l2 o2,.slice e3 l3 o3,.slice e4 l4 o4,.slice e5 l5 o5,.slice e6 l6 o6]] wc.drew fun e w'=>e=.returned (.bool true)/\Hid (Below wc.heap.size wc w'):=hheld.mono fun e w' ⟨b,he,hb,hbl⟩=>by
    rw[hb.2 hh] at he;exact ⟨he,aN ((Below.refl _ wc).drew) hbl⟩
   have HHS:Hid (Nx.iR n):=hh.small
   clear hheld
   by_cases hc:Nx.fM n=(0,-1)
   ·have HCK:Hid (Nx.fM n=(0,-1)):=hc
    have hck':∀W,Below wc.heap.size wc W->Calls Tryz.prog 29 #[.agg #[.int .i64 pl,.slice e1 l1 o1,.slice e2 l2 o2,.slice e3 l3 o3,.slice e4 l4 o4,.slice e5 l5 o5,.slice e6 l6 o6]] W fun e w'=>e=.returned .nilIface/\Hid (Below wc.heap.size wc w'):=fun W hbW=>(hck W hbW HHS.out).mono fun e w' h=>by
     obtain ⟨v,rfl,he,hb⟩:=h
     rw[HCK.out] at he
     rcases he with ⟨_,_,rfl⟩|⟨c1,_,_⟩|⟨c1,_⟩
     ·exact ⟨rfl,aN hbW hb⟩
     ·exact absurd rfl c1
     ·exact absurd rfl c1
    clear hh hc hck
    go_region_law (first
     | (go_simp;go_at_call 28;refine hheld'.mono ?_;rintro e w7 ⟨rfl,h7⟩;obtain ⟨s0,s1,s2,s3,s4,s5,s6⟩:=gC (HZ.out w7 h7.out).1;obtain ⟨t0,t1,t2,t3,t4,t5,t6⟩:=gC (HZ.out w7 h7.out).2.1;have tf:=(HZ.out w7 h7.out).2.2;have hc7:=hck' w7 h7.out)
     | (go_simp;go_at_call 29;refine hc7.mono ?_;rintro e w8 ⟨rfl,h8⟩;obtain ⟨s0,s1,s2,s3,s4,s5,s6⟩:=gC (HZ.out w8 h8.out).1;obtain ⟨t0,t1,t2,t3,t4,t5,t6⟩:=gC (HZ.out w8 h8.out).2.1;have tf:=(HZ.out w8 h8.out).2.2))
    all_goals
     go_wp2_with fail
     obtain ⟨z0,hfin⟩:=HF.out true w8 h8.out (fun _=>⟨HHS.out,HCK.out⟩) _ rfl
     exact bodyPost_ret (mL _ _ (w.heap.size+1) _ _ rfl rfl rfl z0) rfl hfin
   ·have HCK:Hid (Nx.fM n≠(0,-1)):=hc
    have hck':∀W,Below wc.heap.size wc W->Calls Tryz.prog 29 #[.agg #[.int .i64 pl,.slice e1 l1 o1,.slice e2 l2 o2,.slice e3 l3 o3,.slice e4 l4 o4,.slice e5 l5 o5,.slice e6 l6 o6]] W fun e w'=>∃t v,e=.returned (.iface t v)/\Hid (Below wc.heap.size wc w'):=fun W hbW=>(hck W hbW HHS.out).mono fun e w' h=>by
     obtain ⟨v,rfl,he,hb⟩:=h
     rcases he with ⟨c1,c2,rfl⟩|⟨_,_,rfl⟩|⟨_,g,q,_,_,rfl,_⟩
     ·exact absurd (Prod.ext c1 c2) HCK.out
     ·exact ⟨_,_,rfl,aN hbW hb⟩
     ·exact ⟨_,_,rfl,aN hbW hb⟩
    clear hh hc hck
    go_region_law (first
     | (go_simp;go_at_call 28;refine hheld'.mono ?_;rintro e w7 ⟨rfl,h7⟩;obtain ⟨s0,s1,s2,s3,s4,s5,s6⟩:=gC (HZ.out w7 h7.out).1;obtain ⟨t0,t1,t2,t3,t4,t5,t6⟩:=gC (HZ.out w7 h7.out).2.1;have tf:=(HZ.out w7 h7.out).2.2;have hc7:=hck' w7 h7.out)
     | (go_simp;go_at_call 29;refine hc7.mono ?_;rintro e w8 ⟨tt,tv,rfl,h8⟩;obtain ⟨s0,s1,s2,s3,s4,s5,s6⟩:=gC (HZ.out w8 h8.out).1;obtain ⟨t0,t1,t2,t3,t4,t5,t6⟩:=gC (HZ.out w8 h8.out).2.1;have tf:=(HZ.out w8 h8.out).2.2))
    all_goals
     go_wp2_with fail
     obtain ⟨z0,hfin⟩:=HF.out false w8 h8.out (fun h=>absurd h (by simp)) _ rfl
     exact bodyPost_ret (mL _ _ (w.heap.size+1) _ _ rfl rfl rfl z0) rfl hfin
  ·have hheld':Calls Tryz.prog 28 #[.agg #[.int .i64 pl,.slice e1 l1 o1,.slice e2 l2 o2,.slice e3 l3 o3,.slice e4 l4 o4,.slice e5 l5 o5,.slice e6 l6 o6]] wc.drew fun e w'=>e=.returned (.bool false)/\Hid (Below wc.heap.size wc w'):=hheld.mono fun e w' ⟨b,he,hb,hbl⟩=>by
    have hbf:b=false:=by cases b with
     | false=>rfl
     | true=>exact absurd (hb.1 rfl) hh
    rw[hbf] at he;exact ⟨he,aN ((Below.refl _ wc).drew) hbl⟩
   clear hheld hh hck
   go_region_law ((go_simp;go_at_call 28;refine hheld'.mono ?_;rintro e w7 ⟨rfl,h7⟩;obtain ⟨s0,s1,s2,s3,s4,s5,s6⟩:=gC (HZ.out w7 h7.out).1;obtain ⟨t0,t1,t2,t3,t4,t5,t6⟩:=gC (HZ.out w7 h7.out).2.1;have tf:=(HZ.out w7 h7.out).2.2))
   all_goals
    go_wp2_with fail
    obtain ⟨z0,hfin⟩:=HF.out false w7 h7.out (fun h=>absurd h (by simp)) _ rfl
    exact bodyPost_ret (mL _ _ (w.heap.size+1) _ _ rfl rfl rfl z0) rfl hfin
end
end Ew
end
section
open Go.RowKit Px
namespace Ew
open Nx (Nt Sp eQ lX)
def Wu (n:Nt) (w:World) (e:Ending) (w':World):Prop:=∃(f1 f2 f3 f4 f5 f6:Option Addr) (k1 c1 k2 c2 k3 c3 k4 c4 k5 c5 k6 c6:Nat),e=.returned (.tuple #[.agg #[.int .i64 n.places,.slice f1 k1 c1,.slice f2 k2 c2,.slice f3 k3 c3,.slice f4 k4 c4,.slice f5 k5 c5,.slice f6 k6 c6],.nilIface])/\Hid (Below w.heap.size w w'/\eQ w'.heap.size w' n (.slice f1 k1 c1) (.slice f2 k2 c2) (.slice f3 k3 c3) (.slice f4 k4 c4) (.slice f5 k5 c5) (.slice f6 k6 c6))
theorem aC5 {w2:World}{c:Nat}{b0 b1 b2 b3 b4 b5 b6 a0 a1 a2 a3 a4 a5 a6:Value}(hc:w2.heap[c]?=some (.cells #[b0,b1,b2,b3,b4,b5,b6] 26 (0,0))) {w3:World}(hw:w3=((((((w2.setCell ⟨c,0,none⟩ a0).setCell ⟨c,1,none⟩ a1).setCell ⟨c,2,none⟩ a2).setCell ⟨c,3,none⟩ a3).setCell ⟨c,4,none⟩ a4).setCell ⟨c,5,none⟩ a5).setCell ⟨c,6,none⟩ a6) :
    w3.heap[c]?=some (.cells #[a0,a1,a2,a3,a4,a5,a6] 26 (0,0))/\(∀k,k≠c->w3.heap[k]?=w2.heap[k]?)/\(∀B a,Below B a w2->B≤c->Below B a w3)/\w3.heap.size=w2.heap.size:=by
 have h0:=bQ (l:=[b0,b1,b2,b3,b4,b5,b6]) hc 0 a0
 have h1:=bQ (l:=[a0,b1,b2,b3,b4,b5,b6]) h0 1 a1
 have h2:=bQ (l:=[a0,a1,b2,b3,b4,b5,b6]) h1 2 a2
 have h3:=bQ (l:=[a0,a1,a2,b3,b4,b5,b6]) h2 3 a3
 have h4:=bQ (l:=[a0,a1,a2,a3,b4,b5,b6]) h3 4 a4
 have h5:=bQ (l:=[a0,a1,a2,a3,a4,b5,b6]) h4 5 a5
 have h6:=bQ (l:=[a0,a1,a2,a3,a4,a5,b6]) h5 6 a6
 have ot:∀(W:World) (j:Nat) (u:Value) (k:Nat),k≠c->(W.setCell ⟨c,j,none⟩ u).heap[k]?=W.heap[k]?:=fun W j u k hk=>Below.heap_setCell _ _ _ _ hk
 have bl:∀(B:Nat) (a W:World) (j:Nat) (u:Value),Below B a W->B≤c->Below B a (W.setCell ⟨c,j,none⟩ u):=fun B a W j u h hB=>h.setCell (p:=⟨c,j,none⟩) hB u
 have sz:∀(W:World) (j:Nat) (u:Value),(W.setCell ⟨c,j,none⟩ u).heap.size=W.heap.size:=fun W j u=>by simp[World.setCell]
 rw[hw]
 refine ⟨h6,fun k hkc=>?_,fun B a hb hBc=>?_,?_⟩
 ·rw[ot _ _ _ _ hkc,ot _ _ _ _ hkc,ot _ _ _ _ hkc,ot _ _ _ _ hkc,ot _ _ _ _ hkc,ot _ _ _ _ hkc,ot _ _ _ _ hkc]
 ·exact bl _ _ _ _ _ (bl _ _ _ _ _ (bl _ _ _ _ _ (bl _ _ _ _ _ (bl _ _ _ _ _ (bl _ _ _ _ _ (bl _ _ _ _ _ hb hBc) hBc) hBc) hBc) hBc) hBc) hBc
 ·rw[sz,sz,sz,sz,sz,sz,sz]
theorem Kv {B:Nat}{n:Nt}{w:World}{vF vI vO vK vN vC:Value}(h:eQ B w n vF vI vO vK vN vC) (hB:B≤w.heap.size) (hr:lX n) :
    Calls Tryz.prog 29 #[.agg #[.int .i64 n.places,vF,vI,vO,vK,vN,vC]] w fun e w'=>e=.returned .nilIface/\Hid (Below w.heap.size w w'):=
 (Nx.iM B n w _ _ _ _ _ _ h hB hr.small).mono fun e w' h=>by
  obtain ⟨v,rfl,he,hb⟩:=h
  rw[Nx.D7 hr] at he
  rcases he with ⟨_,_,rfl⟩|⟨c1,_,_⟩|⟨c1,_⟩
  ·exact ⟨rfl,hb⟩
  ·exact absurd rfl c1
  ·exact absurd rfl c1
theorem xK {V:World}{b:Nat}{zs:List Int}{t:TypeId}(cap:Nat) (h:V.heap[b]?=some (.cells (zs.map (Value.int .i64)).toArray t (0,0))):Nx.bL (· < V.heap.size) V (.slice (some ⟨b,0,none⟩) zs.length cap) zs:=
 (show Nx.Own V (.slice (some ⟨b,0,none⟩) zs.length cap) zs b from ⟨_,cap,rfl,fun _=>⟨rfl,[],t,by rw[List.append_nil];exact h⟩⟩).ints fun _=>aB h
theorem X0 {V:World}{A:Nat->Prop}:Nx.bL A V (.slice none 0 0) []:=⟨none,0,0,0,rfl,fun h=>absurd h (by simp),fun j hj=>absurd hj (by simp)⟩
theorem Je {V:World}{b:Nat}{l:List Sp}{t:TypeId}(cap:Nat) (h:V.heap[b]?=some (.cells (l.flatMap rA).toArray t (0,0))):Nx.lH (· < V.heap.size) V (.slice (some ⟨b,0,none⟩) l.length cap) l:=by
 have at':∀j i,j<l.length->i<5->V.cell? ⟨b,0+j*5+i,none⟩=(rA (l.getD j Nx.iC))[i]?:=fun j i hj hi=>by
  rw[Nat.zero_add,Nx.qU h,Ql l j i (l.getD j Nx.iC) (by rw[List.getD_eq_getElem?_getD,List.getElem?_eq_getElem hj];rfl) hi]
 exact ⟨_,b,0,cap,rfl,fun _=>⟨rfl,aB h⟩,fun j hj=>⟨at' j 0 hj (by omega),at' j 1 hj (by omega),at' j 2 hj (by omega),at' j 3 hj (by omega),at' j 4 hj (by omega)⟩⟩
theorem rU {A:Nat->Prop}{V:World}{f:Option Addr}{k c:Nat}{l:List Sp}(h:Nx.lH A V (.slice f k c) l):k=l.length/\∃b off,(0<l.length->f=some ⟨b,off,none⟩)/\∀j,j<l.length->V.cell? ⟨b,off+j*5,none⟩=some (.int .i64 (l.getD j Nx.iC).code)/\V.cell? ⟨b,off+j*5+1,none⟩=some (.int .i64 (l.getD j Nx.iC).dst)/\V.cell? ⟨b,off+j*5+2,none⟩=some (.int .i64 (l.getD j Nx.iC).a)/\V.cell? ⟨b,off+j*5+3,none⟩=some (.int .i64 (l.getD j Nx.iC).b)/\V.cell? ⟨b,off+j*5+4,none⟩=some (.int .i64 (l.getD j Nx.iC).c):=by
 obtain ⟨ad,b,off,cap,e,h1,h2⟩:=h
 injection e with e1 e2 e3
 subst e1
 exact ⟨e2,b,off,fun hp=>(h1 hp).1,h2⟩
theorem Fy {A:Nat->Prop}{V:World}{f:Option Addr}{k c:Nat}{l:List Int}(h:Nx.bL A V (.slice f k c) l):k=l.length/\∃b off,(0<l.length->f=some ⟨b,off,none⟩)/\∀j,j<l.length->V.cell? ⟨b,off+j,none⟩=some (.int .i64 (l.getD j 0)):=by
 obtain ⟨ad,b,off,cap,e,h1,h2⟩:=h
 injection e with e1 e2 e3
 subst e1
 exact ⟨e2,b,off,fun hp=>(h1 hp).1,h2⟩
structure Bx (q:Nat) (w W:World) (n:Nt) (vF vI vO vK vN vC:Value):Prop where
 bel:Below w.heap.size w W
 hq:q=w.heap.size
 b1:W.heap[q]?=some (.cells #[.int .i64 n.places,vF,vI,vO,vK,vN,vC] 26 (0,0))
 b2:W.heap[q+1]?=some (.cells ZN 26 (0,0))
theorem Bx.next {q:Nat}{w W W':World}{n:Nt}{vF vI vO vK vN vC:Value}(h:Bx q w W n vF vI vO vK vN vC) (hb:Below (q+2) W W'):Bx q w W' n vF vI vO vK vN vC:=
 ⟨h.bel.trans (hb.mono (by have:=h.hq;omega)),h.hq,by rw[hb.block q (by omega)];exact h.b1,by rw[hb.block (q+1) (by omega)];exact h.b2⟩
theorem Bx.size {q:Nat}{w W:World}{n:Nt}{vF vI vO vK vN vC:Value}(h:Bx q w W n vF vI vO vK vN vC):q+2≤W.heap.size:=by have:=aB h.b2;omega
theorem Bx.start (w:World) (n:Nt) (vF vI vO vK vN vC:Value):Bx w.heap.size w ((w.alloc (.cells #[.int .i64 n.places,vF,vI,vO,vK,vN,vC] 26)).alloc (.cells ZN 26)) n vF vI vO vK vN vC:=by
 have e:(w.alloc (.cells #[.int .i64 n.places,vF,vI,vO,vK,vN,vC] 26)).heap.size=w.heap.size+1:=by simp
 exact ⟨aN (aC _ _) (aC _ _),rfl,aH (aC _ _) (bE w _),by rw[<-e];exact bE _ _⟩
theorem Bx.old {q B:Nat}{w W:World}{n m:Nt}{vF vI vO vK vN vC uF uI uO uK uN uC:Value}(h:Bx q w W n vF vI vO vK vN vC) (hB:B≤w.heap.size) (hN:eQ B w m uF uI uO uK uN uC):eQ B W m uF uI uO uK uN uC:=hN.below (h.bel.mono hB) (Nat.le_refl _)
theorem Rm {w w1 w2 X:World}{q B:Nat}{N:Nt}{pn:Int}{g1 g2 g3 g4 g5 g6:Option Addr}{m1 d1 m2 d2 m3 d3 m4 d4 m5 d5 m6 d6:Nat}{b0 b1 b2 b3 b4 b5 b6:Value}(hB:B≤q) (hq:q<w1.heap.size) (hk:w2.heap[q]?=some (.cells #[b0,b1,b2,b3,b4,b5,b6] 26 (0,0))) (hX:X=((((((w2.setCell ⟨q,0,none⟩ (.int .i64 pn)).setCell ⟨q,1,none⟩ (.slice g1 m1 d1)).setCell ⟨q,2,none⟩ (.slice g2 m2 d2)).setCell ⟨q,3,none⟩ (.slice g3 m3 d3)).setCell ⟨q,4,none⟩ (.slice g4 m4 d4)).setCell ⟨q,5,none⟩ (.slice g5 m5 d5)).setCell ⟨q,6,none⟩ (.slice g6 m6 d6)) (hw0:Below w.heap.size w w2) (hw1:w.heap.size≤q) :
    Below w.heap.size w X/\X.heap[q]?=some (.cells #[.int .i64 pn,.slice g1 m1 d1,.slice g2 m2 d2,.slice g3 m3 d3,.slice g4 m4 d4,.slice g5 m5 d5,.slice g6 m6 d6] 26 (0,0))/\(Xt (fun x=>x<B\/w1.heap.size≤x/\x<w2.heap.size) w2 N (.slice g1 m1 d1) (.slice g2 m2 d2) (.slice g3 m3 d3) (.slice g4 m4 d4) (.slice g5 m5 d5) (.slice g6 m6 d6)->eQ X.heap.size X N (.slice g1 m1 d1) (.slice g2 m2 d2) (.slice g3 m3 d3) (.slice g4 m4 d4) (.slice g5 m5 d5) (.slice g6 m6 d6)/\lX N/\(∀x∈N.first,eF x)/\∀x∈N.nums,eF x):=by
 obtain ⟨y0,y1,y2,y3⟩:=aC5 hk hX
 refine ⟨y2 _ _ hw0 hw1,y0,fun c=>⟨(c.v.carry (A':=fun x=>x<X.heap.size) (w':=X) fun x hx hl=>⟨by rw[y3];exact hl,y1 x ?_⟩).netV fun _ h=>h,Nx.D8 c.ok,c.nf,c.nn⟩⟩
 rcases hx with hx|hx<;>omega
end Ew
end
end Go.Proofs.YtcdbhoknhnimcaaGreatDoor
