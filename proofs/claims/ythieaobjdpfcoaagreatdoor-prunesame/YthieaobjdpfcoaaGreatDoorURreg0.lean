import Derived.Test.YthieaobjdpfcoaaGreatDoorUPpart
import Derived.Test.YthieaobjdpfcoaaGreatDoorUPpart2
import Derived.StillTailTactics
set_option maxRecDepth 100000
set_option maxHeartbeats 8000000
namespace Go.Proofs.YthieaobjdpfcoaaGreatDoor
section
open Go.RowKit Px
theorem xF {L:List Lx.fQ}{i m:Nat}(h:pD L i=.ok m):i<m:=by
 rw[pD] at h
 split at h
 ·injection h with h;omega
 ·exact absurd h (by simp)
theorem pT (L:List Lx.fQ) (k:bE) (i:Nat):i≤kH L k i:=by unfold kH;split<;>omega
theorem Wr {L:List Lx.fQ}{ρ:Type}{n:Nat->Nat->Except F (List ρ×Nat×Nat)}(u:∀c i l r j,n c i=.ok (l,r,j)->i<j) {s s':cF ρ}{c i r j:Nat}(h:Px.eF L ρ n s c i=.ok (some (s',r,j))):i<j:=by
 rw[Px.eF] at h
 split at h
 ·split at h
  ·exact absurd h (by simp)
  ·rename_i hy
   have:=Ol hy
   injection h with h;injection h with h;injection h with _ h;injection h with _ h;omega
 ·split at h
  ·split at h
   ·exact absurd h (by simp)
   ·rename_i hy
    have:=u _ _ _ _ _ hy
    injection h with h;injection h with h;injection h with _ h;injection h with _ h;omega
  ·split at h
   ·split at h
    ·exact absurd h (by simp)
    ·rename_i hy
     have k:=(lI _ _ _ _ _ hy).1
     simp at k
     split at h
     ·exact absurd h (by simp)
     ·rename_i hm
      have:=xF hm
      injection h with h;injection h with h;injection h with _ h;injection h with _ h;omega
   ·split at h
    ·split at h
     ·exact absurd h (by simp)
     ·rename_i hy
      have k:=(lI _ _ _ _ _ hy).1
      simp at k
      split at h
      ·exact absurd h (by simp)
      ·rename_i hm
       have:=xF hm
       injection h with h;injection h with h;injection h with _ h;injection h with _ h;omega
    ·split at h
     ·split at h
      ·exact absurd h (by simp)
      ·rename_i hy
       have k:=(lI _ _ _ _ _ hy).1
       simp at k
       split at h
       ·exact absurd h (by simp)
       ·rename_i hm
        have:=xF hm
        injection h with h;injection h with h;injection h with _ h;injection h with _ h;omega
     ·split at h
      ·split at h
       ·split at h
        ·exact absurd h (by simp)
        ·rename_i hy
         have k:=qV hy
         split at h
         ·exact absurd h (by simp)
         ·rename_i hm
          have:=xF hm
          injection h with h;injection h with h;injection h with _ h;injection h with _ h;omega
       ·exact absurd h (by simp)
      ·exact absurd h (by simp)
theorem Qi {L:List Lx.fQ}{ρ:Type}{n:Nat->Nat->Except F (List ρ×Nat×Nat)}(r:∀c i l k j,n c i=.ok (l,k,j)->i<j):∀(f:Nat) (s:cF ρ) (c i:Nat) (s':cF ρ) (k j:Nat),parts L ρ n f s c i=.ok (s',k,j)->i≤j:=by
 intro f
 induction f with
 | zero=>intro s c i s' k j h;rw[parts] at h;injection h with h;injection h with _ h;injection h with _ h;omega
 | succ f ih=>
  intro s c i s' k j h
  rw[parts] at h
  split at h
  ·exact absurd h (by simp)
  ·split at h
   ·injection h with h;injection h with _ h;injection h with _ h;omega
   ·exact absurd h (by simp)
  ·rename_i hp
   have u:=Wr r hp
   have y:=ih _ _ _ _ _ _ h
   omega
theorem j9 {L:List Lx.fQ}{ρ:Type}{k:Nat->Nat->Except F (List ρ×Nat×Nat)}(u:∀c i l n j,k c i=.ok (l,n,j)->i<j) {r la:Bool}{c i n j:Nat}{s:cF ρ}(h:cP L ρ k r la c i=.ok (s,n,j)):i<j:=by
 rw[cP] at h
 split at h
 ·split at h
  ·exact absurd h (by simp)
  ·split at h
   ·exact absurd h (by simp)
   ·split at h
    ·injection h with h;injection h with _ h;injection h with _ h;omega
    ·split at h
     ·have:=Qi u _ _ _ _ _ _ _ h;omega
     ·exact absurd h (by simp)
 ·exact absurd h (by simp)
theorem Kf {L:List Lx.fQ}{ρ:Type}{n:Nat->Nat->Except F (List ρ×Nat×Nat)}(s:∀c i l k j,n c i=.ok (l,k,j)->i<j):∀(f:Nat) (l:List (cF ρ)) (c i:Nat) (r:List (cF ρ)) (k j:Nat),states L ρ n f l c i=.ok (r,k,j)->i≤j:=by
 intro f
 induction f with
 | zero=>intro l c i r k j h;rw[states] at h;injection h with h;injection h with _ h;injection h with _ h;omega
 | succ f ih=>
  intro l c i r k j h
  rw[states] at h
  split at h
  ·split at h
   ·exact absurd h (by simp)
   ·rename_i hs
    have y:=j9 s hs
    have D:=ih _ _ _ _ _ _ h
    have I:=pT L dO i
    have u:=pT L iC (kH L dO i)
    omega
  ·split at h
   ·injection h with h;injection h with _ h;injection h with _ h;omega
   ·exact absurd h (by simp)
theorem uW {L:List Lx.fQ}:∀(k c i:Nat) (l:List (St k)) (r j:Nat),aW L k c i=.ok (l,r,j)->i<j:=by
 intro k
 induction k with
 | zero=>intro c i l r j h;rw[aW] at h;exact absurd h (by simp)
 | succ k ih=>
  intro c i l r j h
  have n:(if tx L i=fF then states L (St k) (aW L k) L.length [] c (i+1) else .error (3,pl L i))=.ok (l,r,j):=h
  by_cases ho:tx L i=fF
  ·rw[if_pos ho] at n
   have:=Kf ih _ _ _ _ _ _ _ n;omega
  ·rw[if_neg ho] at n
   exact absurd n (by simp)
end
section
open Go.RowKit Px
theorem Nm {C:dV}{w:World}{i st ins:Nat}{c1 c2:Value}(h:PS C w i st ins 0) (R:Ending->World->Prop) (Inv:Nat->World->Prop) (Fin:World->Prop) (g0:Nat)
    (s:tx C.L i≠fF->∀e w',aR C w (3,pl C.L i) e w'->R e w')
    (k:tx C.L i=fF->∀w1,PS C w1 (i+1) st ins 0->Fr w.heap.size [C.rb] w w1->Inv g0 w1)
    (c:∀g w1,Inv g w1->Calls Tryz.prog 195 #[c1,c2] w1 fun e w2=>(e=.returned (.bool true)/\∃g',g'<g/\Inv g' w2)\/(e=.returned (.bool false)/\Fin w2)\/(∃ch,e=.panicked ch/\R e w2))
    (r:∀w2,Fin w2->∃j st',PS C w2 j st' ins 0/\(tx C.L j≠jM->∀e w3,aR C w2 (3,pl C.L j) e w3->R e w3)/\(tx C.L j=jM->∀w3,PS C w3 (j+1) st' ins 0->Fr w2.heap.size [C.rb] w2 w3->R (.returned (.tuple #[])) w3)) :
    Calls Tryz.prog 103 #[.pointer (some ⟨C.rb,0,none⟩),.func (.func 195) #[] #[c1,c2]] w R:=by
 have HE:Hid _:=s
 have HS:Hid _:=k
 have HR:Hid _:=c
 have HF:Hid _:=r
 clear s k c r
 go_enter Tryz.func103,Tryz.ntmps103
 go_wp2_with (go_at_call 101;refine (cD h ⟨#[123]⟩ fF rfl (by decide)).mono ?_;rintro e w1 h1;rcases h1.cases with ⟨f,n,q,rfl,O⟩|⟨_,v1,n,rfl,⟨rfl,J⟩,ab⟩;(· exact ⟨rfl,HE.out (aV n).1 _ _ (by rw[<-(aV n).2];exact ⟨q,rfl,O⟩)⟩))
 have hI:Hid _:=HS.out (bJ n) w1 J ab
 go_loopg [] g0 (fun g wr=>Hid (Inv g wr))
 case atStart=>exact hI
 case round=>
  go_wp2_with fail
  refine (HR.out _ _ hrel.out).mono ?_
  rintro e w2 (⟨rfl,g',Z,D⟩|⟨rfl,aa⟩|⟨ch,rfl,hR⟩)
  ·go_wp2_with fail
   go_roundg g'
   case measure=>exact Z
   case rel=>exact D
  ·obtain ⟨j,st',I,y,u⟩:=HF.out w2 aa
   have Y:Hid _:=y
   have X:Hid _:=u
   clear y u
   go_wp2_with (go_at_call 101;refine (cD I ⟨#[125]⟩ jM rfl (by decide)).mono ?_;rintro e w3 h3;rcases h3.cases with ⟨f,l,q,rfl,O⟩|⟨_,v3,l,rfl,⟨rfl,Q⟩,U⟩;(· exact ⟨rfl,Y.out (aV l).1 _ _ (by rw[<-(aV l).2];exact ⟨q,rfl,O⟩)⟩))
   go_end0
   exact X.out (bJ l) w3 Q U
  ·exact ⟨rfl,hR⟩
end
section
open Go.RowKit Px
theorem lS.cases {B:Nat}{X:List Nat}{α:Type}{ok:α->Value->World->Prop}{w:World}{r:Except F α}{e:Ending}{w':World}(h:lS B X ok w r e w'):(∃f,Hid (r=.error f)/\iV B X w f e w')\/(∃a v,Hid (r=.ok a)/\e=.returned v/\ok a v w'/\Fr B X w w'):=by
 cases r with
 | error f=>exact .inl ⟨f,rfl,h⟩
 | ok a=>obtain ⟨v,k,j,c⟩:=h;exact .inr ⟨a,v,rfl,k,j,c⟩
theorem iV.up {B:Nat}{X:List Nat}{w w1 w':World}{f:F}{e:Ending}(h:iV B X w1 f e w') (c:Fr B X w w1):iV B X w f e w':=by
 obtain ⟨q,n,k,j,l⟩:=h
 exact ⟨q,n,k,aH5 c.size j,c.trans l⟩
structure wX (C:dV) (B sb ba bb:Nat) (w:World):Prop where
 a:w.cell? ⟨ba,0,none⟩=some (.pointer (some ⟨C.rb,0,none⟩))
 b:w.cell? ⟨bb,0,none⟩=some (.pointer (some ⟨sb,0,none⟩))
 la:ba<B
 lb:bb<B
 na:ba∉[C.rb,sb]
 nb:bb∉[C.rb,sb]
theorem wX.carry {C:dV}{B sb ba bb:Nat}{w w':World}(h:wX C B sb ba bb w) (hf:Fr B [C.rb,sb] w w'):wX C B sb ba bb w':=
 ⟨by rw[hf.cell (p:=⟨ba,0,none⟩) h.la h.na];exact h.a,by rw[hf.cell (p:=⟨bb,0,none⟩) h.lb h.nb];exact h.b,h.la,h.lb,h.na,h.nb⟩
theorem Ds {C:dV}{k B sb ins i c l n:Nat}{w:World}{s:cF (St k)}(h:PS C w i c ins 0) (O:Db C B sb w) (Q:X9 k B sb w s) (hb:Bd i s) (r:Region C k) (I:ins+k=6) (hx:wX C B sb l n w) :
    Calls Tryz.prog 195 #[.pointer (some ⟨l,0,none⟩),.pointer (some ⟨n,0,none⟩)] w (lS B [C.rb,sb] (mU C k B sb ins i c s) w (Px.eF C.L (St k) (aW C.L k) s c i)):=by
 have Y:=hx.a
 have X:=hx.b
 have J:=Qk h O Q hb r I (uW k)
 go_enter Tryz.func195,Tryz.ntmps195
 go_wp2_with (go_at_call 196;refine J.mono ?_;rintro e w1 y;rcases y.cases with ⟨f,j,q,rfl,D⟩|⟨a,v,j,rfl,U,u⟩;(· exact ⟨rfl,by rw[j.out];exact ⟨q,rfl,D⟩⟩))
 go_ret
 rw[j.out]
 exact ⟨v,rfl,U,u⟩
def Uy (C:dV) (k B sb ins:Nat) (x:cF (St k)×Nat×Nat) (v:Value) (w':World):Prop:=v=.tuple #[]/\PS C w' x.2.2 x.2.1 ins 0/\X9 k B sb w' x.1
theorem Db.carry {C:dV}{B sb:Nat}{w w':World}(h:Db C B sb w) (hs:w.heap.size≤w'.heap.size):Db C B sb w':=⟨h.hrb,h.hsb,h.hne,aH5 h.hB hs⟩
theorem Co {C:dV}{k B sb ins i c ba bb:Nat}{w:World}{s:cF (St k)}(h:PS C w i c ins 0) (Y:Db C B sb w) (hS:X9 k B sb w s) (hb:Bd i s) (hR:Region C k) (hk:ins+k=6) (hx:wX C B sb ba bb w) :
    Calls Tryz.prog 103 #[.pointer (some ⟨C.rb,0,none⟩),.func (.func 195) #[] #[.pointer (some ⟨ba,0,none⟩),.pointer (some ⟨bb,0,none⟩)]] w
     (lS B [C.rb,sb] (Uy C k B sb ins) w (if tx C.L i=fF then parts C.L (St k) (aW C.L k) C.L.length s c (i+1) else .error (3,pl C.L i))):=by
 obtain ⟨O,J⟩:∃O,O=(if tx C.L i=fF then parts C.L (St k) (aW C.L k) C.L.length s c (i+1) else .error (3,pl C.L i)):=⟨_,rfl⟩
 rw[<-J]
 have hX:∀x∈[C.rb],x<B:=by have:=Y.hrb;simp;omega
 have ad:sb∉[C.rb]:=by have:=Y.hne;simp;omega
 have U:∀{w1 w2:World}{I:cF (St k)},X9 k B sb w1 I->Fr w1.heap.size [C.rb] w1 w2->X9 k B sb w2 I:=by
  rintro w1 w2 I ⟨e,d,l,p,y,r,xe,xd,xl,xy,xr,hs⟩ hf
  exact ⟨e,d,l,p,y,r,xe,xd,xl,xy,xr,hs.carry hX ad hf⟩
 refine Nm h _ (fun g w1=>∃(I:cF (St k)) (c1 j:Nat),O=parts C.L (St k) (aW C.L k) g I c1 j/\C.L.length≤g+j/\Bd j I/\PS C w1 j c1 ins 0/\X9 k B sb w1 I/\Fr B [C.rb,sb] w w1)
  (fun w2=>∃(I:cF (St k)) (c1 j:Nat),O=(if tx C.L j=jM then .ok (I,c1,j+1) else .error (3,pl C.L j))/\PS C w2 j c1 ins 0/\X9 k B sb w2 I/\Fr B [C.rb,sb] w w2) C.L.length ?_ ?_ ?_ ?_
 ·intro hn e w' ht
  rw[J,if_neg hn]
  exact ht.x (Fr.refl _ _ _) Y.hB (by simp)
 ·intro ho w1 u n
  refine ⟨s,c,i+1,by rw[J,if_pos ho],by omega,⟨by have:=hb.e;omega,by have:=hb.d;omega,by have:=hb.l;omega,by have:=hb.y;omega,by have:=hb.r;omega⟩,u,U hS n,n.x Y.hB⟩
 ·rintro g w1 ⟨I,c1,j,D,hg,ag,u,Z,n⟩
  obtain ⟨g',rfl⟩:∃g',g=g'+1:=⟨g-1,by have:=u.lt;omega⟩
  refine (Ds u (Y.carry n.size) Z ag hR hk (hx.carry n)).mono ?_
  rintro e w2 h2
  rcases h2.cases with ⟨f,Q,ht⟩|⟨o,v,Q,rfl,hv,ab⟩
  ·refine .inr (.inr ?_)
   obtain ⟨q,rfl,hq⟩:=ht
   refine ⟨_,rfl,?_⟩
   rw[D,parts,Q.out]
   exact iV.up ⟨q,rfl,hq⟩ n
  ·cases o with
   | none=>
    obtain ⟨rfl,X,aa⟩:=hv
    exact .inr (.inl ⟨rfl,I,c1,j,by rw[D,parts,Q.out],X,aa,n.trans ab⟩)
   | some x=>
    obtain ⟨s2,c2,j2⟩:=x
    obtain ⟨rfl,ah,af,X,aa⟩:=hv
    exact .inl ⟨rfl,g',by omega,s2,c2,j2,by rw[D,parts,Q.out],by omega,af,X,aa,n.trans ab⟩
 ·rintro w2 ⟨I,c1,j,D,u,Z,n⟩
  refine ⟨j,c1,u,fun hn e w3 ht=>?_,fun ho w3 ae ac=>?_⟩
  ·rw[D,if_neg hn]
   exact ht.x n (aH5 Y.hB n.size) (by simp)
  ·rw[D,if_pos ho]
   exact ⟨_,rfl,⟨rfl,ae,U Z ac⟩,n.trans (ac.x (aH5 Y.hB n.size))⟩
theorem SU.start {k B sb:Nat}{w:World}{nm:bE}{c la:Bool}(h:w.heap[sb]?=some (.cells (rA nm c la (.slice none 0 0) (.slice none 0 0) (.slice none 0 0) (.pointer none) (.slice none 0 0) (.slice none 0 0)) 223 (0,0))) :
    SU k B sb w ⟨nm,c,la,[],[],[],.nil,[],[]⟩ (.slice none 0 0) (.slice none 0 0) (.slice none 0 0) (.pointer none) (.slice none 0 0) (.slice none 0 0) [] [] [] [] []:=by
 refine ⟨h,⟨fun x hx=>?_,?_,fun x hx=>?_⟩⟩
 ·simp only[aZ,aO6,List.not_mem_nil,or_false] at hx
  rcases hx with rfl|rfl|rfl|rfl|rfl|rfl<;>exact aX2 _ _ _ _
 ·simp[aZ,cE,kP,iL,dW,Value.ownBlock]
 ·simp only[aZ,aO6,List.not_mem_nil,or_false] at hx
  rcases hx with rfl|rfl|rfl|rfl|rfl|rfl<;>rfl
end
section
open Go.RowKit Px
theorem Dq {C:dV}{k sb ins i c:Nat}{w:World}{u la:Bool}(h:PS C w i c ins 0) (ad:C.rb<sb) (s:w.heap[sb]?=some (.cells (rA [] u la (.slice none 0 0) (.slice none 0 0) (.slice none 0 0) (.pointer none) (.slice none 0 0) (.slice none 0 0)) 223 (0,0))) (hc:24≤c):Calls Tryz.prog 151 #[.pointer (some ⟨C.rb,0,none⟩),.pointer (some ⟨sb,0,none⟩)] w (lS w.heap.size [C.rb,sb] (Uy C k (w.heap.size+2) sb ins) w (cP C.L (St k) (aW C.L k) u la c i)):=by
 have hC:=h.lts.1
 have Z:=aB s
 obtain ⟨Q,J⟩:=h.alloc (.cells #[.pointer (some ⟨C.rb,0,none⟩)] 168)
 obtain ⟨X,aa⟩:=Q.alloc (.cells #[.pointer (some ⟨sb,0,none⟩)] 225)
 have n:=J.up aa
 have ab:((w.alloc (.cells #[.pointer (some ⟨C.rb,0,none⟩)] 168)).alloc (.cells #[.pointer (some ⟨sb,0,none⟩)] 225)).heap.size=w.heap.size+2:=by simp
 have Y:wX C (w.heap.size+2) sb w.heap.size (w.heap.size+1) ((w.alloc (.cells #[.pointer (some ⟨C.rb,0,none⟩)] 168)).alloc (.cells #[.pointer (some ⟨sb,0,none⟩)] 225)):=⟨by simp,by simp,by omega,by omega,by simp;omega,by simp;omega⟩
 have I:((w.alloc (.cells #[.pointer (some ⟨C.rb,0,none⟩)] 168)).alloc (.cells #[.pointer (some ⟨sb,0,none⟩)] 225)).heap[sb]?=some (.cells (rA [] u la (.slice none 0 0) (.slice none 0 0) (.slice none 0 0) (.pointer none) (.slice none 0 0) (.slice none 0 0)) 223 (0,0)):=by rw[n.block sb Z (by simp;omega)];exact s
 have D:sb∉[C.rb]:=by simp;omega
 go_enter Tryz.func151,Tryz.ntmps151
 go_wp2_with (go_at_call 101;refine (cD X ⟨#[115,116,97,116,101]⟩ gZ rfl (by decide)).mono ?_;rintro e w1 h1;rcases h1.cases with ⟨f,j,q,rfl,O⟩|⟨_,v1,j,rfl,⟨rfl,r⟩,l⟩;(· exact ⟨rfl,by rw[cP,if_neg (aV j).1,<-(aV j).2];exact aR.x ⟨q,rfl,O⟩ (n.x (aF4 _)) (by omega) (by simp)⟩))
 have hx1:=Y.carry (l.x (by omega))
 have ae:w1.heap[sb]?=some (.cells (rA [] u la (.slice none 0 0) (.slice none 0 0) (.slice none 0 0) (.pointer none) (.slice none 0 0) (.slice none 0 0)) 223 (0,0)):=by rw[l.block sb (by omega) D];exact I
 have y:=n.up l
 have ac:=l.size
 have x1:=hx1.a
 obtain ⟨-,-,c2,-⟩:=r.cells
 have hdr:Fr w1.heap.size [] w1 w1.drew:=(Fr.refl _ _ _).drew
 have U:=r.same hdr
 go_still_tail 5,(by kernel_rfl)
 go_wp2_with (go_at_call 107;refine (qX U c 24 hc).mono ?_;rintro e w2 ⟨q,rfl,O⟩;exact ⟨rfl,by rw[cP,if_pos (bJ j),if_pos hc];exact aR.x ⟨q,rfl,O⟩ ((y.x (aF4 _)).drew) (by (show w.heap.size≤w1.heap.size);omega) (by simp)⟩)
theorem Dp {C:dV}{k sb ins i c:Nat}{w:World}{r la:Bool}(h:PS C w i c ins 0) (bc:C.rb<sb) (ab:w.heap[sb]?=some (.cells (rA [] r la (.slice none 0 0) (.slice none 0 0) (.slice none 0 0) (.pointer none) (.slice none 0 0) (.slice none 0 0)) 223 (0,0))) (hc:c<24) (J:tx C.L (i+2)=fE):Calls Tryz.prog 151 #[.pointer (some ⟨C.rb,0,none⟩),.pointer (some ⟨sb,0,none⟩)] w (lS w.heap.size [C.rb,sb] (Uy C k (w.heap.size+2) sb ins) w (cP C.L (St k) (aW C.L k) r la c i)):=by
 have hC:=h.lts.1
 have av:=aB ab
 obtain ⟨ao,bb⟩:=h.alloc (.cells #[.pointer (some ⟨C.rb,0,none⟩)] 168)
 obtain ⟨ar,aw⟩:=ao.alloc (.cells #[.pointer (some ⟨sb,0,none⟩)] 225)
 have Q:=bb.up aw
 have bj:((w.alloc (.cells #[.pointer (some ⟨C.rb,0,none⟩)] 168)).alloc (.cells #[.pointer (some ⟨sb,0,none⟩)] 225)).heap.size=w.heap.size+2:=by simp
 have au:wX C (w.heap.size+2) sb w.heap.size (w.heap.size+1) ((w.alloc (.cells #[.pointer (some ⟨C.rb,0,none⟩)] 168)).alloc (.cells #[.pointer (some ⟨sb,0,none⟩)] 225)):=⟨by simp,by simp,by omega,by omega,by simp;omega,by simp;omega⟩
 have ba:((w.alloc (.cells #[.pointer (some ⟨C.rb,0,none⟩)] 168)).alloc (.cells #[.pointer (some ⟨sb,0,none⟩)] 225)).heap[sb]?=some (.cells (rA [] r la (.slice none 0 0) (.slice none 0 0) (.slice none 0 0) (.pointer none) (.slice none 0 0) (.slice none 0 0)) 223 (0,0)):=by rw[Q.block sb av (by simp;omega)];exact ab
 have I:sb∉[C.rb]:=by simp;omega
 have bn:∀(fn:Fn) (first cap:Array Value) (w:World),(Instr.makeFunc fn first cap).run Tryz.prog w=.ok (.func fn first cap) w:=fun _ _ _ _=>rfl
 have HO:∀s,Hid (nm C.L (i+1)=.ok s)->tx C.L i=gZ->Hid (cP C.L (St k) (aW C.L k) r la c i=.ok (⟨s,r,la,[],[],[],.nil,[],[]⟩,c+1,i+3)):=fun s hs ht=>by rw[Hid,cP,if_pos ht,if_neg (by omega),hs.out];simp only;rw[if_pos J]
 have HE:∀f,Hid (nm C.L (i+1)=.error f)->tx C.L i=gZ->Hid (cP C.L (St k) (aW C.L k) r la c i=.error f):=fun f hs ht=>by rw[Hid,cP,if_pos ht,if_neg (by omega),hs.out]
 have al:Hid _:=J
 clear J
 go_enter Tryz.func151,Tryz.ntmps151
 go_wp2_with (go_at_call 101;refine (cD ar ⟨#[115,116,97,116,101]⟩ gZ rfl (by decide)).mono ?_;rintro e w1 h1;rcases h1.cases with ⟨f,l,q,rfl,hq⟩|⟨_,v1,l,rfl,⟨rfl,ad⟩,D⟩;(· exact ⟨rfl,by rw[cP,if_neg (aV l).1,<-(aV l).2];exact aR.x ⟨q,rfl,hq⟩ (Q.x (aF4 _)) (by omega) (by simp)⟩))
 have hx1:=au.carry (D.x (by omega))
 have bi:w1.heap[sb]?=some (.cells (rA [] r la (.slice none 0 0) (.slice none 0 0) (.slice none 0 0) (.pointer none) (.slice none 0 0) (.slice none 0 0)) 223 (0,0)):=by rw[D.block sb (by omega) I];exact ba
 have ax:=Q.up D
 have bo:=D.size
 have x1:=hx1.a
 obtain ⟨-,-,c2,-⟩:=ad.cells
 have hdr:Fr w1.heap.size [] w1 w1.drew:=(Fr.refl _ _ _).drew
 have ap:=ad.same hdr
 go_still_tail 5,(by kernel_rfl)
 go_wp2_with (go_at_call 107;refine (kD (C:=C) c 24 hc).mono ?_;rintro e w2 ⟨rfl,O⟩;have Z:PS C w2 (i+1) c ins 0:=(by rw[O];exact ap);have u:Fr w1.heap.size [] w1 w2:=(by rw[O];exact hdr);clear O;have ag:=hx1.carry ((u.wide (X:=[C.rb])).x (B:=w.heap.size+2) (by omega));have y1:=ag.a;obtain ⟨-,-,d2,-⟩:=Z.cells;have z2:=Z.frozen 2;have bm:=u.size)
 obtain ⟨ae,n⟩:=Z.more
 have y:=ag.carry (n.x (B:=w.heap.size+2) (by omega))
 have af:(w2.setCell ⟨C.rb,2,none⟩ (.int .i64 ((c:Int)+1))).heap[sb]?=some (.cells (rA [] r la (.slice none 0 0) (.slice none 0 0) (.slice none 0 0) (.pointer none) (.slice none 0 0) (.slice none 0 0)) 223 (0,0)):=by rw[n.block sb (by omega) I,u.block sb (by omega) (by simp)];exact bi
 have Y:=(ax.up u.wide).up n
 have bh:=n.size
 clear d2 z2 y1 x1 c2
 generalize (w2.setCell ⟨C.rb,2,none⟩ (.int .i64 ((c:Int)+1)))=w3 at ae n y af Y bh ⊢
 have ak:Fr w3.heap.size [] w3 w3.drew:=(Fr.refl _ _ _).drew
 have aj:=ae.same ak
 have a3:=y.a
 have b3:=y.b
 go_region_law
  (go_simp
   go_at_call 102
   refine (eZ aj).mono ?_
   rintro e w4 h4
   rcases h4.cases with ⟨f,U,q,rfl,hq⟩|⟨s4,v4,U,rfl,⟨rfl,bf⟩,am⟩
   ·exact ⟨rfl,by rw[(HE _ U (bJ l)).out];exact aR.x ⟨q,rfl,hq⟩ ((Y.x (aF4 _)).drew) (by (show w.heap.size≤w3.heap.size);omega) (by simp)⟩
   rw[sv]
   have j:=ak.wide.up am
   have aa:=y.carry (j.x (B:=w.heap.size+2) (by omega))
   have a4:=aa.a
   have b4:=aa.b
   have ac:w4.heap[sb]?=some (.cells (rA [] r la (.slice none 0 0) (.slice none 0 0) (.slice none 0 0) (.pointer none) (.slice none 0 0) (.slice none 0 0)) 223 (0,0)):=by rw[j.block sb (by omega) I];exact af
   obtain ⟨s0,bk⟩:=lU ac 0 (.string ⟨#[]⟩) rfl
   have bp:=j.size
   have az:=bf.put bc 0 (.string ⟨s4.toArray⟩)
   have ay:(w4.setCell ⟨sb,0,none⟩ (.string ⟨s4.toArray⟩)).heap[sb]?=some (.cells (rA s4 r la (.slice none 0 0) (.slice none 0 0) (.slice none 0 0) (.pointer none) (.slice none 0 0) (.slice none 0 0)) 223 (0,0)):=heap_setCell_same w4 sb 0 _ 223 _ ac
   have be:=((Y.up j).x (sb:=sb) (aF4 _)).setCell (p:=⟨sb,0,none⟩) (.inr (by simp)) (.string ⟨s4.toArray⟩)
   have ah:=aa.carry (((Fr.refl (w.heap.size+2) [C.rb,sb] w4)).setCell (p:=⟨sb,0,none⟩) (.inr (by simp)) (.string ⟨s4.toArray⟩))
   have a5:=ah.a
   have b5:=ah.b)
 all_goals
  go_wp2_with (go_at_call 109;refine (dM az ⟨#[59]⟩ al.out (by decide)).mono ?_;rintro e w6 ⟨rfl,an,ai⟩)
  first
   | go_end0
   | refine aX5 (results_none rfl _ _ _) rfl ?_
  rw[(HO _ U (bJ l)).out]
  exact ⟨_,rfl,⟨rfl,an,⟨_,_,_,_,_,_,_,_,_,_,_,SU.start (by rw[ai.block sb (by simp;omega) I];exact ay)⟩⟩,be.trans (ai.x (by simp;omega))⟩
theorem m9 {C:dV}{k sb ins i c:Nat}{w:World}{n la:Bool}(h:PS C w i c ins 0) (am:C.rb<sb) (ah:w.heap[sb]?=some (.cells (rA [] n la (.slice none 0 0) (.slice none 0 0) (.slice none 0 0) (.pointer none) (.slice none 0 0) (.slice none 0 0)) 223 (0,0))) (hc:c<24) (O:tx C.L (i+2)≠fE) (hR:Region C k) (hk:ins+k=6):Calls Tryz.prog 151 #[.pointer (some ⟨C.rb,0,none⟩),.pointer (some ⟨sb,0,none⟩)] w (lS w.heap.size [C.rb,sb] (Uy C k (w.heap.size+2) sb ins) w (cP C.L (St k) (aW C.L k) n la c i)):=by
 have hC:=h.lts.1
 have be:=aB ah
 obtain ⟨az,bn⟩:=h.alloc (.cells #[.pointer (some ⟨C.rb,0,none⟩)] 168)
 obtain ⟨bb,bf⟩:=az.alloc (.cells #[.pointer (some ⟨sb,0,none⟩)] 225)
 have U:=bn.up bf
 have bu:((w.alloc (.cells #[.pointer (some ⟨C.rb,0,none⟩)] 168)).alloc (.cells #[.pointer (some ⟨sb,0,none⟩)] 225)).heap.size=w.heap.size+2:=by simp
 have bc:wX C (w.heap.size+2) sb w.heap.size (w.heap.size+1) ((w.alloc (.cells #[.pointer (some ⟨C.rb,0,none⟩)] 168)).alloc (.cells #[.pointer (some ⟨sb,0,none⟩)] 225)):=⟨by simp,by simp,by omega,by omega,by simp;omega,by simp;omega⟩
 have bm:((w.alloc (.cells #[.pointer (some ⟨C.rb,0,none⟩)] 168)).alloc (.cells #[.pointer (some ⟨sb,0,none⟩)] 225)).heap[sb]?=some (.cells (rA [] n la (.slice none 0 0) (.slice none 0 0) (.slice none 0 0) (.pointer none) (.slice none 0 0) (.slice none 0 0)) 223 (0,0)):=by rw[U.block sb be (by simp;omega)];exact ah
 have Z:sb∉[C.rb]:=by simp;omega
 have bz:∀(fn:Fn) (first cap:Array Value) (w:World),(Instr.makeFunc fn first cap).run Tryz.prog w=.ok (.func fn first cap) w:=fun _ _ _ _=>rfl
 have HO:∀s,Hid (nm C.L (i+1)=.ok s)->tx C.L i=gZ->Hid (cP C.L (St k) (aW C.L k) n la c i=if tx C.L (i+2)=fF then parts C.L (St k) (aW C.L k) C.L.length ⟨s,n,la,[],[],[],.nil,[],[]⟩ (c+1) (i+2+1) else .error (3,pl C.L (i+2))):=fun s hs ht=>by rw[Hid,cP,if_pos ht,if_neg (by omega),hs.out];simp only;rw[if_neg O]
 have HE:∀f,Hid (nm C.L (i+1)=.error f)->tx C.L i=gZ->Hid (cP C.L (St k) (aW C.L k) n la c i=.error f):=fun f hs ht=>by rw[Hid,cP,if_pos ht,if_neg (by omega),hs.out]
 have ar:Hid _:=O
 clear O
 go_enter Tryz.func151,Tryz.ntmps151
 go_wp2_with (go_at_call 101;refine (cD bb ⟨#[115,116,97,116,101]⟩ gZ rfl (by decide)).mono ?_;rintro e w1 h1;rcases h1.cases with ⟨f,l,q,rfl,hq⟩|⟨_,v1,l,rfl,⟨rfl,aj⟩,J⟩;(· exact ⟨rfl,by rw[cP,if_neg (aV l).1,<-(aV l).2];exact aR.x ⟨q,rfl,hq⟩ (U.x (aF4 _)) (by omega) (by simp)⟩))
 have hx1:=bc.carry (J.x (by omega))
 have br:w1.heap[sb]?=some (.cells (rA [] n la (.slice none 0 0) (.slice none 0 0) (.slice none 0 0) (.pointer none) (.slice none 0 0) (.slice none 0 0)) 223 (0,0)):=by rw[J.block sb (by omega) Z];exact bm
 have bh:=U.up J
 have ca:=J.size
 have x1:=hx1.a
 obtain ⟨-,-,c2,-⟩:=aj.cells
 have hdr:Fr w1.heap.size [] w1 w1.drew:=(Fr.refl _ _ _).drew
 have ba:=aj.same hdr
 go_still_tail 5,(by kernel_rfl)
 go_wp2_with (go_at_call 107;refine (kD (C:=C) c 24 hc).mono ?_;rintro e w2 ⟨rfl,Q⟩;have aa:PS C w2 (i+1) c ins 0:=(by rw[Q];exact ba);have y:Fr w1.heap.size [] w1 w2:=(by rw[Q];exact hdr);clear Q;have an:=hx1.carry ((y.wide (X:=[C.rb])).x (B:=w.heap.size+2) (by omega));have y1:=an.a;obtain ⟨-,-,d2,-⟩:=aa.cells;have z2:=aa.frozen 2;have bw:=y.size)
 obtain ⟨ak,r⟩:=aa.more
 have D:=an.carry (r.x (B:=w.heap.size+2) (by omega))
 have al:(w2.setCell ⟨C.rb,2,none⟩ (.int .i64 ((c:Int)+1))).heap[sb]?=some (.cells (rA [] n la (.slice none 0 0) (.slice none 0 0) (.slice none 0 0) (.pointer none) (.slice none 0 0) (.slice none 0 0)) 223 (0,0)):=by rw[r.block sb (by omega) Z,y.block sb (by omega) (by simp)];exact br
 have Y:=(bh.up y.wide).up r
 have bq:=r.size
 clear d2 z2 y1 x1 c2
 generalize (w2.setCell ⟨C.rb,2,none⟩ (.int .i64 ((c:Int)+1)))=w3 at ak r D al Y bq ⊢
 have ap:Fr w3.heap.size [] w3 w3.drew:=(Fr.refl _ _ _).drew
 have ao:=ak.same ap
 have a3:=D.a
 have b3:=D.b
 go_region_law
  (go_simp
   go_at_call 102
   refine (eZ ao).mono ?_
   rintro e w4 h4
   rcases h4.cases with ⟨f,I,q,rfl,hq⟩|⟨s4,v4,I,rfl,⟨rfl,bo⟩,ax⟩
   ·exact ⟨rfl,by rw[(HE _ I (bJ l)).out];exact aR.x ⟨q,rfl,hq⟩ ((Y.x (aF4 _)).drew) (by (show w.heap.size≤w3.heap.size);omega) (by simp)⟩
   rw[sv]
   have j:=ap.wide.up ax
   have ae:=D.carry (j.x (B:=w.heap.size+2) (by omega))
   have a4:=ae.a
   have b4:=ae.b
   have ai:w4.heap[sb]?=some (.cells (rA [] n la (.slice none 0 0) (.slice none 0 0) (.slice none 0 0) (.pointer none) (.slice none 0 0) (.slice none 0 0)) 223 (0,0)):=by rw[j.block sb (by omega) Z];exact al
   obtain ⟨s0,bv⟩:=lU ai 0 (.string ⟨#[]⟩) rfl
   have cb:=j.size
   have bj:=bo.put am 0 (.string ⟨s4.toArray⟩)
   have bi:(w4.setCell ⟨sb,0,none⟩ (.string ⟨s4.toArray⟩)).heap[sb]?=some (.cells (rA s4 n la (.slice none 0 0) (.slice none 0 0) (.slice none 0 0) (.pointer none) (.slice none 0 0) (.slice none 0 0)) 223 (0,0)):=heap_setCell_same w4 sb 0 _ 223 _ ai
   have ac:=((Y.up j).x (sb:=sb) (aF4 _)).setCell (p:=⟨sb,0,none⟩) (.inr (by simp)) (.string ⟨s4.toArray⟩)
   have ad:=ae.carry (((Fr.refl (w.heap.size+2) [C.rb,sb] w4)).setCell (p:=⟨sb,0,none⟩) (.inr (by simp)) (.string ⟨s4.toArray⟩))
   have a5:=ad.a
   have b5:=ad.b)
 all_goals
  go_wp2_with (first
   | (go_at_call 109;refine (cN bj ⟨#[59]⟩ ar.out).mono ?_;rintro e w6 ⟨rfl,aw,u⟩;have af:=u.size;have ag:=ad.carry ((u.wide (X:=[C.rb])).x (B:=w.heap.size+2) (by simp;omega));have q1:=ag.a;have au:X9 k (w.heap.size+2) sb w6 ⟨s4,n,la,[],[],[],.nil,[],[]⟩:=⟨_,_,_,_,_,_,_,_,_,_,_,SU.start (by rw[u.block sb (by simp;omega) (by simp)];exact bi)⟩;have av:Db C (w.heap.size+2) sb w6:=⟨by omega,by omega,am,by simp at af;omega⟩)
   | (go_at_call 103;refine (Co aw av au ⟨by simp,by simp,by simp,by simp,by simp⟩ hR hk ag).mono ?_;rintro e w7 h7;rcases h7.cases with ⟨f,ab,q,rfl,hq⟩|⟨x7,v7,ab,rfl,⟨rfl,bk,bp⟩,ay⟩;(· exact ⟨rfl,by rw[(HO _ I (bJ l)).out,ab.out];obtain ⟨q1,q2,q3⟩:=hq;exact ⟨q,rfl,q1,by (simp at af;have:=ac.size;simp at this;omega),(ac.trans ((u.wide (X:=[C.rb])).x (by simp;omega))).trans (q3.mono (by omega) (fun _ hx _=>hx))⟩⟩)))
  go_end0
  rw[(HO _ I (bJ l)).out,ab.out]
  exact ⟨_,rfl,⟨rfl,bk,bp⟩,(ac.trans ((u.wide (X:=[C.rb])).x (by simp;omega))).trans (ay.mono (by omega) (fun _ hx _=>hx))⟩
theorem Kg {C:dV}{k sb ins i c:Nat}{w:World}{n la:Bool}(h:PS C w i c ins 0) (l:C.rb<sb) (j:w.heap[sb]?=some (.cells (rA [] n la (.slice none 0 0) (.slice none 0 0) (.slice none 0 0) (.pointer none) (.slice none 0 0) (.slice none 0 0)) 223 (0,0))) (r:Region C k) (s:ins+k=6):Calls Tryz.prog 151 #[.pointer (some ⟨C.rb,0,none⟩),.pointer (some ⟨sb,0,none⟩)] w (lS w.heap.size [C.rb,sb] (Uy C k (w.heap.size+2) sb ins) w (cP C.L (St k) (aW C.L k) n la c i)):=by
 by_cases hc:24≤c
 ·exact Dq h l j hc
 ·by_cases hse:tx C.L (i+2)=fE
  ·exact Dp h l j (by omega) hse
  ·exact m9 h l j (by omega) hse r s
end
section
open Go.RowKit Px
theorem Fr.stays {C:dV}{w w':World}{b:Nat}{o:Obj}(c:Fr w.heap.size [C.rb] w w') (hb:w.heap[b]?=some o) (h:C.rb<b):w'.heap[b]?=some o:=by
 rw[c.block b (aB hb) (by simp;omega)];exact hb
theorem Tryz.sizeState:(Tryz.prog.info? 223).map (·.size)=some 9:=by kernel_rfl
theorem aD5 {W:World}{g:Nat}{fc:Array Value}(hsz:fc.size=9) (hg:W.heap[g]?=some (.cells fc 223 (0,0))):(loadVar 223 ⟨g,0,none⟩).run Tryz.prog W=.ok (.agg fc) W:=
 run_loadVar_row (P:=Tryz.prog) W g 223 223 fc (0,0) _ hg Tryz.underlying223 rfl (by rw[hsz];exact Tryz.sizeState)
theorem Tryz.infoState:(Tryz.prog.info? 223).map (fun i=>(i.zero,i.size,i.bytes))=some (some (.agg #[.string ⟨#[]⟩,.bool false,.bool false,.slice none 0 0,.slice none 0 0,.slice none 0 0,.pointer none,.slice none 0 0,.slice none 0 0]),9,152):=by kernel_rfl
structure pG (k B:Nat) (w:World) (l:List (cF (St k))) (v:Value) (xs:List Value):Prop where
 own:w.ownsRow B 223 9 v l.length xs
 rows:Rows (Da (kE B v) w (aM (kE B v) w k)) l xs
theorem pG.done {k B:Nat}{w:World}{l:List (cF (St k))}{v:Value}{xs:List Value}(h:pG k B w l v xs):aM (Ge B) w (k+1) l v:=
 ⟨xs,⟨qN h.own,fun g hg=>(h.own.lt g hg).1⟩,h.rows.map (Da.carry nF (aM.carry nF k))⟩
theorem pG.carry {C:dV}{k B:Nat}{w w':World}{l:List (cF (St k))}{v:Value}{xs:List Value}(h:pG k B w l v xs) (hB:C.rb<B) (hf:Fr w.heap.size [C.rb] w w'):pG k B w' l v xs:=
 ⟨qM h.own hB hf,h.rows.map (Da.carry (tJ hB hf) (aM.carry (tJ hB hf) k))⟩
theorem Z9 {C:dV}{k B:Nat}{w wr w5 w6:World}{l:List (cF (St k))}{v c:Value}{I cs:List Value}{s:cF (St k)}{o:Obj}(hB:C.rb<B) (n:B≤wr.heap.size) (h:pG k B wr l v I) (D:Fr wr.heap.size [C.rb] wr w5) (Z:Fr B [C.rb] w wr) (X:Da (Ge wr.heap.size) w5 (aM (Ge wr.heap.size) w5 k) s cs)
    (u:w6.ownsRow B 223 9 c (l.length+1) (I++cs)) (r:(w5.alloc o).grownBy w6 v.ownBlock) (j:c.ownBlock=v.ownBlock\/c.ownBlock=some (w5.alloc o).heap.size) :
    pG k B w6 (l++[s]) c (I++cs)/\Fr B [C.rb] w w6:=by
 have J:=D.size
 have O:∀A:Nat->Prop,bB A A w5 (w5.alloc o):=fun A b e hb=>⟨e,Below.heap_alloc _ _ _ hb⟩
 have Q:bB (kE B v) (kE B c) wr w6:=sZ ((tJ hB D).trans (O _) J) (by simp;omega) r j
 have y:∀g,v.ownBlock=some g->g<wr.heap.size:=fun g r=>(h.own.lt g r).2
 have U:bB (Ge wr.heap.size) (kE B c) w5 w6:=((Bj n y).trans (sZ (O _) (by simp) r j) (aF4 _))
 refine ⟨⟨by rw[aH7];exact u,(h.rows.map (Da.carry Q (aM.carry Q k))).append (Rows.one (Da.carry U (aM.carry U k) _ _ X))⟩,?_⟩
 exact ((Z.up' D n).alloc (by omega) o).grown r (by simp;omega) (fun k Y=>.inl (h.own.lt k Y).1)
theorem qH.shape {A:Nat->Prop}{w:World}{l:List Wy}{v:Value}(h:qH A w l v):∃ao n cap,v=.slice ao n cap:=by
 obtain ⟨j,c,_⟩:=h
 obtain ⟨ao,cap,rfl⟩:=aP c.1
 exact ⟨ao,_,cap,rfl⟩
theorem gP.shape {ρ:Type}{A:Nat->Prop}{w:World}{I:List ρ->Value->Prop}{l:List (List ρ)}{v:Value}(h:gP A w I l v):∃ao n cap,v=.slice ao n cap:=by
 obtain ⟨j,c,_⟩:=h
 obtain ⟨ao,cap,rfl⟩:=aP c.1
 exact ⟨ao,_,cap,rfl⟩
theorem Da.shapes {ρ:Type}{A:Nat->Prop}{w:World}{I:List ρ->Value->Prop}{s:cF ρ}{e d l p y r:Value}(h:Da A w I s (rA s.name s.first s.last e d l p y r).toList) :
    (∃a n c,e=.slice a n c)/\(∃a n c,d=.slice a n c)/\(∃a n c,l=.slice a n c)/\(∃u,p=.pointer u)/\(∃a n c,y=.slice a n c)/\(∃a n c,r=.slice a n c):=by
 obtain ⟨Z,d',l',p',X,Y,j,O,Q,U,J,D,k⟩:=h
 simp at j
 obtain ⟨rfl,rfl,rfl,rfl,rfl,rfl⟩:=j
 exact ⟨O.shape,Q.shape,U.shape,J.ptr,D.shape,k.shape⟩
end
end Go.Proofs.YthieaobjdpfcoaaGreatDoor
