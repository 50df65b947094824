import Derived.Test.YthieaobjdpfcoaaGreatDoorUPpart
import Derived.Test.YthieaobjdpfcoaaGreatDoorUPpart2
import Derived.StillTailTactics
set_option maxRecDepth 100000
set_option maxHeartbeats 8000000
namespace Go.Proofs.YthieaobjdpfcoaaGreatDoor
section
open Go.RowKit Px
theorem xF {L:List Lx.fQ}{i m:Nat}(h:pD L i=.ok m):i<m:=by
 rw[pD] at h
 split at h
 ·injection h with h;omega
 ·exact absurd h (by simp)
theorem pT (L:List Lx.fQ) (k:bE) (i:Nat):i≤kH L k i:=by unfold kH;split<;>omega
theorem Wr {L:List Lx.fQ}{ρ:Type}{n:Nat->Nat->Except F (List ρ×Nat×Nat)}(u:∀c i l r j,n c i=.ok (l,r,j)->i<j) {s s':cF ρ}{c i r j:Nat}(h:Px.eF L ρ n s c i=.ok (some (s',r,j))):i<j:=by
 rw[Px.eF] at h
 split at h
 ·split at h
  ·exact absurd h (by simp)
  ·rename_i hy
   have:=Ol hy
   injection h with h;injection h with h;injection h with _ h;injection h with _ h;omega
 ·split at h
  ·split at h
   ·exact absurd h (by simp)
   ·rename_i hy
    have:=u _ _ _ _ _ hy
    injection h with h;injection h with h;injection h with _ h;injection h with _ h;omega
  ·split at h
   ·split at h
    ·exact absurd h (by simp)
    ·rename_i hy
     have k:=(lI _ _ _ _ _ hy).1
     simp at k
     split at h
     ·exact absurd h (by simp)
     ·rename_i hm
      have:=xF hm
      injection h with h;injection h with h;injection h with _ h;injection h with _ h;omega
   ·split at h
    ·split at h
     ·exact absurd h (by simp)
     ·rename_i hy
      have k:=(lI _ _ _ _ _ hy).1
      simp at k
      split at h
      ·exact absurd h (by simp)
      ·rename_i hm
       have:=xF hm
       injection h with h;injection h with h;injection h with _ h;injection h with _ h;omega
    ·split at h
     ·split at h
      ·exact absurd h (by simp)
      ·rename_i hy
       have k:=(lI _ _ _ _ _ hy).1
       simp at k
       split at h
       ·exact absurd h (by simp)
       ·rename_i hm
        have:=xF hm
        injection h with h;injection h with h;injection h with _ h;injection h with _ h;omega
     ·split at h
      ·split at h
       ·split at h
        ·exact absurd h (by simp)
        ·rename_i hy
         have k:=qV hy
         split at h
         ·exact absurd h (by simp)
         ·rename_i hm
          have:=xF hm
          injection h with h;injection h with h;injection h with _ h;injection h with _ h;omega
       ·exact absurd h (by simp)
      ·exact absurd h (by simp)
theorem Qi {L:List Lx.fQ}{ρ:Type}{k:Nat->Nat->Except F (List ρ×Nat×Nat)}(r:∀c i l n j,k c i=.ok (l,n,j)->i<j):∀(f:Nat) (s:cF ρ) (c i:Nat) (s':cF ρ) (n j:Nat),parts L ρ k f s c i=.ok (s',n,j)->i≤j:=by
 intro f
 induction f with
 | zero=>intro s c i s' n j h;rw[parts] at h;injection h with h;injection h with _ h;injection h with _ h;omega
 | succ f ih=>
  intro s c i s' n j h
  rw[parts] at h
  split at h
  ·exact absurd h (by simp)
  ·split at h
   ·injection h with h;injection h with _ h;injection h with _ h;omega
   ·exact absurd h (by simp)
  ·rename_i hp
   have y:=Wr r hp
   have u:=ih _ _ _ _ _ _ h
   omega
theorem j9 {L:List Lx.fQ}{ρ:Type}{k:Nat->Nat->Except F (List ρ×Nat×Nat)}(r:∀c i l n j,k c i=.ok (l,n,j)->i<j) {u la:Bool}{c i n j:Nat}{s:cF ρ}(h:cP L ρ k u la c i=.ok (s,n,j)):i<j:=by
 rw[cP] at h
 split at h
 ·split at h
  ·exact absurd h (by simp)
  ·split at h
   ·exact absurd h (by simp)
   ·split at h
    ·injection h with h;injection h with _ h;injection h with _ h;omega
    ·split at h
     ·have:=Qi r _ _ _ _ _ _ _ h;omega
     ·exact absurd h (by simp)
 ·exact absurd h (by simp)
theorem Kf {L:List Lx.fQ}{ρ:Type}{k:Nat->Nat->Except F (List ρ×Nat×Nat)}(s:∀c i l n j,k c i=.ok (l,n,j)->i<j):∀(f:Nat) (l:List (cF ρ)) (c i:Nat) (r:List (cF ρ)) (n j:Nat),states L ρ k f l c i=.ok (r,n,j)->i≤j:=by
 intro f
 induction f with
 | zero=>intro l c i r n j h;rw[states] at h;injection h with h;injection h with _ h;injection h with _ h;omega
 | succ f ih=>
  intro l c i r n j h
  rw[states] at h
  split at h
  ·split at h
   ·exact absurd h (by simp)
   ·rename_i hs
    have y:=j9 s hs
    have u:=ih _ _ _ _ _ _ h
    have I:=pT L dO i
    have D:=pT L iC (kH L dO i)
    omega
  ·split at h
   ·injection h with h;injection h with _ h;injection h with _ h;omega
   ·exact absurd h (by simp)
theorem uW {L:List Lx.fQ}:∀(k c i:Nat) (l:List (St k)) (r j:Nat),aW L k c i=.ok (l,r,j)->i<j:=by
 intro k
 induction k with
 | zero=>intro c i l r j h;rw[aW] at h;exact absurd h (by simp)
 | succ k ih=>
  intro c i l r j h
  have n:(if tx L i=fF then states L (St k) (aW L k) L.length [] c (i+1) else .error (3,pl L i))=.ok (l,r,j):=h
  by_cases ho:tx L i=fF
  ·rw[if_pos ho] at n
   have:=Kf ih _ _ _ _ _ _ _ n;omega
  ·rw[if_neg ho] at n
   exact absurd n (by simp)
end
section
open Go.RowKit Px
theorem Nm {C:dV}{w:World}{i st ins:Nat}{c1 c2:Value}(h:PS C w i st ins 0) (R:Ending->World->Prop) (Inv:Nat->World->Prop) (Fin:World->Prop) (g0:Nat)
    (r:tx C.L i≠fF->∀e w',aR C w (3,pl C.L i) e w'->R e w')
    (k:tx C.L i=fF->∀w1,PS C w1 (i+1) st ins 0->Fr w.heap.size [C.rb] w w1->Inv g0 w1)
    (c:∀g w1,Inv g w1->Calls Tryz.prog 195 #[c1,c2] w1 fun e w2=>(e=.returned (.bool true)/\∃g',g'<g/\Inv g' w2)\/(e=.returned (.bool false)/\Fin w2)\/(∃ch,e=.panicked ch/\R e w2))
    (s:∀w2,Fin w2->∃j st',PS C w2 j st' ins 0/\(tx C.L j≠jM->∀e w3,aR C w2 (3,pl C.L j) e w3->R e w3)/\(tx C.L j=jM->∀w3,PS C w3 (j+1) st' ins 0->Fr w2.heap.size [C.rb] w2 w3->R (.returned (.tuple #[])) w3)) :
    Calls Tryz.prog 103 #[.pointer (some ⟨C.rb,0,none⟩),.func (.func 195) #[] #[c1,c2]] w R:=by
 have HE:Hid _:=r
 have HS:Hid _:=k
 have HR:Hid _:=c
 have HF:Hid _:=s
 clear r k c s
 go_enter Tryz.func103,Tryz.ntmps103
 go_wp2_with (go_at_call 101;refine (cD h ⟨#[123]⟩ fF rfl (by decide)).mono ?_;rintro e w1 h1;rcases h1.cases with ⟨f,l,q,rfl,J⟩|⟨_,v1,l,rfl,⟨rfl,Q⟩,I⟩;(· exact ⟨rfl,HE.out (aV l).1 _ _ (by rw[<-(aV l).2];exact ⟨q,rfl,J⟩)⟩))
 have hI:Hid _:=HS.out (bJ l) w1 Q I
 go_loopg [] g0 (fun g wr=>Hid (Inv g wr))
 case atStart=>exact hI
 case round=>
  go_wp2_with fail
  refine (HR.out _ _ hrel.out).mono ?_
  rintro e w2 (⟨rfl,g',X,O⟩|⟨rfl,D⟩|⟨ch,rfl,hR⟩)
  ·go_wp2_with fail
   go_roundg g'
   case measure=>exact X
   case rel=>exact O
  ·obtain ⟨j,st',U,y,u⟩:=HF.out w2 D
   have Z:Hid _:=y
   have Y:Hid _:=u
   clear y u
   go_wp2_with (go_at_call 101;refine (cD U ⟨#[125]⟩ jM rfl (by decide)).mono ?_;rintro e w3 h3;rcases h3.cases with ⟨f,n,q,rfl,J⟩|⟨_,v3,n,rfl,⟨rfl,ab⟩,aa⟩;(· exact ⟨rfl,Z.out (aV n).1 _ _ (by rw[<-(aV n).2];exact ⟨q,rfl,J⟩)⟩))
   go_end0
   exact Y.out (bJ n) w3 ab aa
  ·exact ⟨rfl,hR⟩
end
section
open Go.RowKit Px
theorem lS.cases {B:Nat}{X:List Nat}{α:Type}{ok:α->Value->World->Prop}{w:World}{r:Except F α}{e:Ending}{w':World}(h:lS B X ok w r e w'):(∃f,Hid (r=.error f)/\iV B X w f e w')\/(∃a v,Hid (r=.ok a)/\e=.returned v/\ok a v w'/\Fr B X w w'):=by
 cases r with
 | error f=>exact .inl ⟨f,rfl,h⟩
 | ok a=>obtain ⟨v,j,c,k⟩:=h;exact .inr ⟨a,v,rfl,j,c,k⟩
theorem iV.up {B:Nat}{X:List Nat}{w w1 w':World}{f:F}{e:Ending}(h:iV B X w1 f e w') (c:Fr B X w w1):iV B X w f e w':=by
 obtain ⟨q,k,j,n,l⟩:=h
 exact ⟨q,k,j,aH5 c.size n,c.trans l⟩
structure wX (C:dV) (B sb ba bb:Nat) (w:World):Prop where
 a:w.cell? ⟨ba,0,none⟩=some (.pointer (some ⟨C.rb,0,none⟩))
 b:w.cell? ⟨bb,0,none⟩=some (.pointer (some ⟨sb,0,none⟩))
 la:ba<B
 lb:bb<B
 na:ba∉[C.rb,sb]
 nb:bb∉[C.rb,sb]
theorem wX.carry {C:dV}{B sb ba bb:Nat}{w w':World}(h:wX C B sb ba bb w) (hf:Fr B [C.rb,sb] w w'):wX C B sb ba bb w':=
 ⟨by rw[hf.cell (p:=⟨ba,0,none⟩) h.la h.na];exact h.a,by rw[hf.cell (p:=⟨bb,0,none⟩) h.lb h.nb];exact h.b,h.la,h.lb,h.na,h.nb⟩
theorem Ds {C:dV}{k B sb ins i c n l:Nat}{w:World}{s:cF (St k)}(h:PS C w i c ins 0) (U:Db C B sb w) (y:X9 k B sb w s) (hb:Bd i s) (I:Region C k) (J:ins+k=6) (hx:wX C B sb n l w) :
    Calls Tryz.prog 195 #[.pointer (some ⟨n,0,none⟩),.pointer (some ⟨l,0,none⟩)] w (lS B [C.rb,sb] (mU C k B sb ins i c s) w (Px.eF C.L (St k) (aW C.L k) s c i)):=by
 have X:=hx.a
 have Y:=hx.b
 have Q:=Qk h U y hb I J (uW k)
 go_enter Tryz.func195,Tryz.ntmps195
 go_wp2_with (go_at_call 196;refine Q.mono ?_;rintro e w1 r;rcases r.cases with ⟨f,j,q,rfl,u⟩|⟨a,v,j,rfl,O,D⟩;(· exact ⟨rfl,by rw[j.out];exact ⟨q,rfl,u⟩⟩))
 go_ret
 rw[j.out]
 exact ⟨v,rfl,O,D⟩
def Uy (C:dV) (k B sb ins:Nat) (x:cF (St k)×Nat×Nat) (v:Value) (w':World):Prop:=v=.tuple #[]/\PS C w' x.2.2 x.2.1 ins 0/\X9 k B sb w' x.1
theorem Db.carry {C:dV}{B sb:Nat}{w w':World}(h:Db C B sb w) (hs:w.heap.size≤w'.heap.size):Db C B sb w':=⟨h.hrb,h.hsb,h.hne,aH5 h.hB hs⟩
theorem Co {C:dV}{k B sb ins i c ba bb:Nat}{w:World}{s:cF (St k)}(h:PS C w i c ins 0) (Z:Db C B sb w) (hS:X9 k B sb w s) (hb:Bd i s) (hR:Region C k) (hk:ins+k=6) (hx:wX C B sb ba bb w) :
    Calls Tryz.prog 103 #[.pointer (some ⟨C.rb,0,none⟩),.func (.func 195) #[] #[.pointer (some ⟨ba,0,none⟩),.pointer (some ⟨bb,0,none⟩)]] w
     (lS B [C.rb,sb] (Uy C k B sb ins) w (if tx C.L i=fF then parts C.L (St k) (aW C.L k) C.L.length s c (i+1) else .error (3,pl C.L i))):=by
 obtain ⟨Q,J⟩:∃Q,Q=(if tx C.L i=fF then parts C.L (St k) (aW C.L k) C.L.length s c (i+1) else .error (3,pl C.L i)):=⟨_,rfl⟩
 rw[<-J]
 have hX:∀x∈[C.rb],x<B:=by have:=Z.hrb;simp;omega
 have ad:sb∉[C.rb]:=by have:=Z.hne;simp;omega
 have U:∀{w1 w2:World}{I:cF (St k)},X9 k B sb w1 I->Fr w1.heap.size [C.rb] w1 w2->X9 k B sb w2 I:=by
  rintro w1 w2 I ⟨e,d,l,p,y,r,xe,xd,xl,xy,xr,hs⟩ hf
  exact ⟨e,d,l,p,y,r,xe,xd,xl,xy,xr,hs.carry hX ad hf⟩
 refine Nm h _ (fun g w1=>∃(I:cF (St k)) (c1 j:Nat),Q=parts C.L (St k) (aW C.L k) g I c1 j/\C.L.length≤g+j/\Bd j I/\PS C w1 j c1 ins 0/\X9 k B sb w1 I/\Fr B [C.rb,sb] w w1)
  (fun w2=>∃(I:cF (St k)) (c1 j:Nat),Q=(if tx C.L j=jM then .ok (I,c1,j+1) else .error (3,pl C.L j))/\PS C w2 j c1 ins 0/\X9 k B sb w2 I/\Fr B [C.rb,sb] w w2) C.L.length ?_ ?_ ?_ ?_
 ·intro hn e w' ht
  rw[J,if_neg hn]
  exact ht.x (Fr.refl _ _ _) Z.hB (by simp)
 ·intro ho w1 D n
  refine ⟨s,c,i+1,by rw[J,if_pos ho],by omega,⟨by have:=hb.e;omega,by have:=hb.d;omega,by have:=hb.l;omega,by have:=hb.y;omega,by have:=hb.r;omega⟩,D,U hS n,n.x Z.hB⟩
 ·rintro g w1 ⟨I,c1,j,u,hg,af,D,aa,n⟩
  obtain ⟨g',rfl⟩:∃g',g=g'+1:=⟨g-1,by have:=D.lt;omega⟩
  refine (Ds D (Z.carry n.size) aa af hR hk (hx.carry n)).mono ?_
  rintro e w2 h2
  rcases h2.cases with ⟨f,O,ht⟩|⟨o,v,O,rfl,hv,ab⟩
  ·refine .inr (.inr ?_)
   obtain ⟨q,rfl,hq⟩:=ht
   refine ⟨_,rfl,?_⟩
   rw[u,parts,O.out]
   exact iV.up ⟨q,rfl,hq⟩ n
  ·cases o with
   | none=>
    obtain ⟨rfl,Y,X⟩:=hv
    exact .inr (.inl ⟨rfl,I,c1,j,by rw[u,parts,O.out],Y,X,n.trans ab⟩)
   | some x=>
    obtain ⟨s2,c2,j2⟩:=x
    obtain ⟨rfl,ah,ae,Y,X⟩:=hv
    exact .inl ⟨rfl,g',by omega,s2,c2,j2,by rw[u,parts,O.out],by omega,ae,Y,X,n.trans ab⟩
 ·rintro w2 ⟨I,c1,j,u,D,aa,n⟩
  refine ⟨j,c1,D,fun hn e w3 ht=>?_,fun ho w3 ag ac=>?_⟩
  ·rw[u,if_neg hn]
   exact ht.x n (aH5 Z.hB n.size) (by simp)
  ·rw[u,if_pos ho]
   exact ⟨_,rfl,⟨rfl,ag,U aa ac⟩,n.trans (ac.x (aH5 Z.hB n.size))⟩
theorem SU.start {k B sb:Nat}{w:World}{nm:bE}{c la:Bool}(h:w.heap[sb]?=some (.cells (rA nm c la (.slice none 0 0) (.slice none 0 0) (.slice none 0 0) (.pointer none) (.slice none 0 0) (.slice none 0 0)) 223 (0,0))) :
    SU k B sb w ⟨nm,c,la,[],[],[],.nil,[],[]⟩ (.slice none 0 0) (.slice none 0 0) (.slice none 0 0) (.pointer none) (.slice none 0 0) (.slice none 0 0) [] [] [] [] []:=by
 refine ⟨h,⟨fun x hx=>?_,?_,fun x hx=>?_⟩⟩
 ·simp only[aZ,aO6,List.not_mem_nil,or_false] at hx
  rcases hx with rfl|rfl|rfl|rfl|rfl|rfl<;>exact aX2 _ _ _ _
 ·simp[aZ,cE,kP,iL,dW,Value.ownBlock]
 ·simp only[aZ,aO6,List.not_mem_nil,or_false] at hx
  rcases hx with rfl|rfl|rfl|rfl|rfl|rfl<;>rfl
end
section
open Go.RowKit Px
theorem Dq {C:dV}{k sb ins i c:Nat}{w:World}{u la:Bool}(h:PS C w i c ins 0) (ab:C.rb<sb) (s:w.heap[sb]?=some (.cells (rA [] u la (.slice none 0 0) (.slice none 0 0) (.slice none 0 0) (.pointer none) (.slice none 0 0) (.slice none 0 0)) 223 (0,0))) (hc:24≤c):Calls Tryz.prog 151 #[.pointer (some ⟨C.rb,0,none⟩),.pointer (some ⟨sb,0,none⟩)] w (lS w.heap.size [C.rb,sb] (Uy C k (w.heap.size+2) sb ins) w (cP C.L (St k) (aW C.L k) u la c i)):=by
 have hC:=h.lts.1
 have X:=aB s
 obtain ⟨U,O⟩:=h.alloc (.cells #[.pointer (some ⟨C.rb,0,none⟩)] 168)
 obtain ⟨y,Y⟩:=U.alloc (.cells #[.pointer (some ⟨sb,0,none⟩)] 225)
 have n:=O.up Y
 have ad:((w.alloc (.cells #[.pointer (some ⟨C.rb,0,none⟩)] 168)).alloc (.cells #[.pointer (some ⟨sb,0,none⟩)] 225)).heap.size=w.heap.size+2:=by simp
 have Z:wX C (w.heap.size+2) sb w.heap.size (w.heap.size+1) ((w.alloc (.cells #[.pointer (some ⟨C.rb,0,none⟩)] 168)).alloc (.cells #[.pointer (some ⟨sb,0,none⟩)] 225)):=⟨by simp,by simp,by omega,by omega,by simp;omega,by simp;omega⟩
 have aa:((w.alloc (.cells #[.pointer (some ⟨C.rb,0,none⟩)] 168)).alloc (.cells #[.pointer (some ⟨sb,0,none⟩)] 225)).heap[sb]?=some (.cells (rA [] u la (.slice none 0 0) (.slice none 0 0) (.slice none 0 0) (.pointer none) (.slice none 0 0) (.slice none 0 0)) 223 (0,0)):=by rw[n.block sb X (by simp;omega)];exact s
 have I:sb∉[C.rb]:=by simp;omega
 go_enter Tryz.func151,Tryz.ntmps151
 go_wp2_with (go_at_call 101;refine (cD y ⟨#[115,116,97,116,101]⟩ gZ rfl (by decide)).mono ?_;rintro e w1 h1;rcases h1.cases with ⟨f,j,q,rfl,D⟩|⟨_,v1,j,rfl,⟨rfl,r⟩,l⟩;(· exact ⟨rfl,by rw[cP,if_neg (aV j).1,<-(aV j).2];exact aR.x ⟨q,rfl,D⟩ (n.x (aF4 _)) (by omega) (by simp)⟩))
 have hx1:=Z.carry (l.x (by omega))
 have ac:w1.heap[sb]?=some (.cells (rA [] u la (.slice none 0 0) (.slice none 0 0) (.slice none 0 0) (.pointer none) (.slice none 0 0) (.slice none 0 0)) 223 (0,0)):=by rw[l.block sb (by omega) I];exact aa
 have J:=n.up l
 have ae:=l.size
 have x1:=hx1.a
 obtain ⟨-,-,c2,-⟩:=r.cells
 have hdr:Fr w1.heap.size [] w1 w1.drew:=(Fr.refl _ _ _).drew
 have Q:=r.same hdr
 go_still_tail 5,(by kernel_rfl)
 go_wp2_with (go_at_call 107;refine (qX Q c 24 hc).mono ?_;rintro e w2 ⟨q,rfl,D⟩;exact ⟨rfl,by rw[cP,if_pos (bJ j),if_pos hc];exact aR.x ⟨q,rfl,D⟩ ((J.x (aF4 _)).drew) (by (show w.heap.size≤w1.heap.size);omega) (by simp)⟩)
theorem Dp {C:dV}{k sb ins i c:Nat}{w:World}{r la:Bool}(h:PS C w i c ins 0) (ao:C.rb<sb) (ae:w.heap[sb]?=some (.cells (rA [] r la (.slice none 0 0) (.slice none 0 0) (.slice none 0 0) (.pointer none) (.slice none 0 0) (.slice none 0 0)) 223 (0,0))) (hc:c<24) (Q:tx C.L (i+2)=fE):Calls Tryz.prog 151 #[.pointer (some ⟨C.rb,0,none⟩),.pointer (some ⟨sb,0,none⟩)] w (lS w.heap.size [C.rb,sb] (Uy C k (w.heap.size+2) sb ins) w (cP C.L (St k) (aW C.L k) r la c i)):=by
 have hC:=h.lts.1
 have ax:=aB ae
 obtain ⟨bf,bc⟩:=h.alloc (.cells #[.pointer (some ⟨C.rb,0,none⟩)] 168)
 obtain ⟨al,ay⟩:=bf.alloc (.cells #[.pointer (some ⟨sb,0,none⟩)] 225)
 have O:=bc.up ay
 have bm:((w.alloc (.cells #[.pointer (some ⟨C.rb,0,none⟩)] 168)).alloc (.cells #[.pointer (some ⟨sb,0,none⟩)] 225)).heap.size=w.heap.size+2:=by simp
 have az:wX C (w.heap.size+2) sb w.heap.size (w.heap.size+1) ((w.alloc (.cells #[.pointer (some ⟨C.rb,0,none⟩)] 168)).alloc (.cells #[.pointer (some ⟨sb,0,none⟩)] 225)):=⟨by simp,by simp,by omega,by omega,by simp;omega,by simp;omega⟩
 have ba:((w.alloc (.cells #[.pointer (some ⟨C.rb,0,none⟩)] 168)).alloc (.cells #[.pointer (some ⟨sb,0,none⟩)] 225)).heap[sb]?=some (.cells (rA [] r la (.slice none 0 0) (.slice none 0 0) (.slice none 0 0) (.pointer none) (.slice none 0 0) (.slice none 0 0)) 223 (0,0)):=by rw[O.block sb ax (by simp;omega)];exact ae
 have y:sb∉[C.rb]:=by simp;omega
 have bj:∀(fn:Fn) (first cap:Array Value) (w:World),(Instr.makeFunc fn first cap).run Tryz.prog w=.ok (.func fn first cap) w:=fun _ _ _ _=>rfl
 have HO:∀s,Hid (nm C.L (i+1)=.ok s)->tx C.L i=gZ->Hid (cP C.L (St k) (aW C.L k) r la c i=.ok (⟨s,r,la,[],[],[],.nil,[],[]⟩,c+1,i+3)):=fun s hs ht=>by rw[Hid,cP,if_pos ht,if_neg (by omega),hs.out];simp only;rw[if_pos Q]
 have HE:∀f,Hid (nm C.L (i+1)=.error f)->tx C.L i=gZ->Hid (cP C.L (St k) (aW C.L k) r la c i=.error f):=fun f hs ht=>by rw[Hid,cP,if_pos ht,if_neg (by omega),hs.out]
 have au:Hid _:=Q
 clear Q
 go_enter Tryz.func151,Tryz.ntmps151
 go_wp2_with (go_at_call 101;refine (cD al ⟨#[115,116,97,116,101]⟩ gZ rfl (by decide)).mono ?_;rintro e w1 h1;rcases h1.cases with ⟨f,l,q,rfl,hq⟩|⟨_,v1,l,rfl,⟨rfl,ai⟩,u⟩;(· exact ⟨rfl,by rw[cP,if_neg (aV l).1,<-(aV l).2];exact aR.x ⟨q,rfl,hq⟩ (O.x (aF4 _)) (by omega) (by simp)⟩))
 have hx1:=az.carry (u.x (by omega))
 have ap:w1.heap[sb]?=some (.cells (rA [] r la (.slice none 0 0) (.slice none 0 0) (.slice none 0 0) (.pointer none) (.slice none 0 0) (.slice none 0 0)) 223 (0,0)):=by rw[u.block sb (by omega) y];exact ba
 have an:=O.up u
 have bo:=u.size
 have x1:=hx1.a
 obtain ⟨-,-,c2,-⟩:=ai.cells
 have hdr:Fr w1.heap.size [] w1 w1.drew:=(Fr.refl _ _ _).drew
 have av:=ai.same hdr
 go_still_tail 5,(by kernel_rfl)
 go_wp2_with (go_at_call 107;refine (kD (C:=C) c 24 hc).mono ?_;rintro e w2 ⟨rfl,Z⟩;have U:PS C w2 (i+1) c ins 0:=(by rw[Z];exact av);have D:Fr w1.heap.size [] w1 w2:=(by rw[Z];exact hdr);clear Z;have ah:=hx1.carry ((D.wide (X:=[C.rb])).x (B:=w.heap.size+2) (by omega));have y1:=ah.a;obtain ⟨-,-,d2,-⟩:=U.cells;have z2:=U.frozen 2;have bn:=D.size)
 obtain ⟨af,n⟩:=U.more
 have I:=ah.carry (n.x (B:=w.heap.size+2) (by omega))
 have ad:(w2.setCell ⟨C.rb,2,none⟩ (.int .i64 ((c:Int)+1))).heap[sb]?=some (.cells (rA [] r la (.slice none 0 0) (.slice none 0 0) (.slice none 0 0) (.pointer none) (.slice none 0 0) (.slice none 0 0)) 223 (0,0)):=by rw[n.block sb (by omega) y,D.block sb (by omega) (by simp)];exact ap
 have Y:=(an.up D.wide).up n
 have bh:=n.size
 clear d2 z2 y1 x1 c2
 generalize (w2.setCell ⟨C.rb,2,none⟩ (.int .i64 ((c:Int)+1)))=w3 at af n I ad Y bh ⊢
 have aj:Fr w3.heap.size [] w3 w3.drew:=(Fr.refl _ _ _).drew
 have ag:=af.same aj
 have a3:=I.a
 have b3:=I.b
 go_region_law
  (go_simp
   go_at_call 102
   refine (eZ ag).mono ?_
   rintro e w4 h4
   rcases h4.cases with ⟨f,aa,q,rfl,hq⟩|⟨s4,v4,aa,rfl,⟨rfl,aw⟩,am⟩
   ·exact ⟨rfl,by rw[(HE _ aa (bJ l)).out];exact aR.x ⟨q,rfl,hq⟩ ((Y.x (aF4 _)).drew) (by (show w.heap.size≤w3.heap.size);omega) (by simp)⟩
   rw[sv]
   have j:=aj.wide.up am
   have J:=I.carry (j.x (B:=w.heap.size+2) (by omega))
   have a4:=J.a
   have b4:=J.b
   have ac:w4.heap[sb]?=some (.cells (rA [] r la (.slice none 0 0) (.slice none 0 0) (.slice none 0 0) (.pointer none) (.slice none 0 0) (.slice none 0 0)) 223 (0,0)):=by rw[j.block sb (by omega) y];exact ad
   obtain ⟨s0,bk⟩:=lU ac 0 (.string ⟨#[]⟩) rfl
   have bp:=j.size
   have be:=aw.put ao 0 (.string ⟨s4.toArray⟩)
   have bi:(w4.setCell ⟨sb,0,none⟩ (.string ⟨s4.toArray⟩)).heap[sb]?=some (.cells (rA s4 r la (.slice none 0 0) (.slice none 0 0) (.slice none 0 0) (.pointer none) (.slice none 0 0) (.slice none 0 0)) 223 (0,0)):=heap_setCell_same w4 sb 0 _ 223 _ ac
   have bb:=((Y.up j).x (sb:=sb) (aF4 _)).setCell (p:=⟨sb,0,none⟩) (.inr (by simp)) (.string ⟨s4.toArray⟩)
   have ab:=J.carry (((Fr.refl (w.heap.size+2) [C.rb,sb] w4)).setCell (p:=⟨sb,0,none⟩) (.inr (by simp)) (.string ⟨s4.toArray⟩))
   have a5:=ab.a
   have b5:=ab.b)
 all_goals
  go_wp2_with (go_at_call 109;refine (dM be ⟨#[59]⟩ au.out (by decide)).mono ?_;rintro e w6 ⟨rfl,ar,ak⟩)
  first
   | go_end0
   | refine aX5 (results_none rfl _ _ _) rfl ?_
  rw[(HO _ aa (bJ l)).out]
  exact ⟨_,rfl,⟨rfl,ar,⟨_,_,_,_,_,_,_,_,_,_,_,SU.start (by rw[ak.block sb (by simp;omega) y];exact bi)⟩⟩,bb.trans (ak.x (by simp;omega))⟩
theorem m9 {C:dV}{k sb ins i c:Nat}{w:World}{r la:Bool}(h:PS C w i c ins 0) (ai:C.rb<sb) (ah:w.heap[sb]?=some (.cells (rA [] r la (.slice none 0 0) (.slice none 0 0) (.slice none 0 0) (.pointer none) (.slice none 0 0) (.slice none 0 0)) 223 (0,0))) (hc:c<24) (ab:tx C.L (i+2)≠fE) (hR:Region C k) (hk:ins+k=6):Calls Tryz.prog 151 #[.pointer (some ⟨C.rb,0,none⟩),.pointer (some ⟨sb,0,none⟩)] w (lS w.heap.size [C.rb,sb] (Uy C k (w.heap.size+2) sb ins) w (cP C.L (St k) (aW C.L k) r la c i)):=by
 have hC:=h.lts.1
 have be:=aB ah
 obtain ⟨bo,bk⟩:=h.alloc (.cells #[.pointer (some ⟨C.rb,0,none⟩)] 168)
 obtain ⟨ar,bf⟩:=bo.alloc (.cells #[.pointer (some ⟨sb,0,none⟩)] 225)
 have Z:=bk.up bf
 have bw:((w.alloc (.cells #[.pointer (some ⟨C.rb,0,none⟩)] 168)).alloc (.cells #[.pointer (some ⟨sb,0,none⟩)] 225)).heap.size=w.heap.size+2:=by simp
 have bh:wX C (w.heap.size+2) sb w.heap.size (w.heap.size+1) ((w.alloc (.cells #[.pointer (some ⟨C.rb,0,none⟩)] 168)).alloc (.cells #[.pointer (some ⟨sb,0,none⟩)] 225)):=⟨by simp,by simp,by omega,by omega,by simp;omega,by simp;omega⟩
 have bi:((w.alloc (.cells #[.pointer (some ⟨C.rb,0,none⟩)] 168)).alloc (.cells #[.pointer (some ⟨sb,0,none⟩)] 225)).heap[sb]?=some (.cells (rA [] r la (.slice none 0 0) (.slice none 0 0) (.slice none 0 0) (.pointer none) (.slice none 0 0) (.slice none 0 0)) 223 (0,0)):=by rw[Z.block sb be (by simp;omega)];exact ah
 have U:sb∉[C.rb]:=by simp;omega
 have bu:∀(fn:Fn) (first cap:Array Value) (w:World),(Instr.makeFunc fn first cap).run Tryz.prog w=.ok (.func fn first cap) w:=fun _ _ _ _=>rfl
 have HO:∀s,Hid (nm C.L (i+1)=.ok s)->tx C.L i=gZ->Hid (cP C.L (St k) (aW C.L k) r la c i=if tx C.L (i+2)=fF then parts C.L (St k) (aW C.L k) C.L.length ⟨s,r,la,[],[],[],.nil,[],[]⟩ (c+1) (i+2+1) else .error (3,pl C.L (i+2))):=fun s hs ht=>by rw[Hid,cP,if_pos ht,if_neg (by omega),hs.out];simp only;rw[if_neg ab]
 have HE:∀f,Hid (nm C.L (i+1)=.error f)->tx C.L i=gZ->Hid (cP C.L (St k) (aW C.L k) r la c i=.error f):=fun f hs ht=>by rw[Hid,cP,if_pos ht,if_neg (by omega),hs.out]
 have ba:Hid _:=ab
 clear ab
 go_enter Tryz.func151,Tryz.ntmps151
 go_wp2_with (go_at_call 101;refine (cD ar ⟨#[115,116,97,116,101]⟩ gZ rfl (by decide)).mono ?_;rintro e w1 h1;rcases h1.cases with ⟨f,l,q,rfl,hq⟩|⟨_,v1,l,rfl,⟨rfl,an⟩,y⟩;(· exact ⟨rfl,by rw[cP,if_neg (aV l).1,<-(aV l).2];exact aR.x ⟨q,rfl,hq⟩ (Z.x (aF4 _)) (by omega) (by simp)⟩))
 have hx1:=bh.carry (y.x (by omega))
 have ay:w1.heap[sb]?=some (.cells (rA [] r la (.slice none 0 0) (.slice none 0 0) (.slice none 0 0) (.pointer none) (.slice none 0 0) (.slice none 0 0)) 223 (0,0)):=by rw[y.block sb (by omega) U];exact bi
 have ax:=Z.up y
 have ca:=y.size
 have x1:=hx1.a
 obtain ⟨-,-,c2,-⟩:=an.cells
 have hdr:Fr w1.heap.size [] w1 w1.drew:=(Fr.refl _ _ _).drew
 have bb:=an.same hdr
 go_still_tail 5,(by kernel_rfl)
 go_wp2_with (go_at_call 107;refine (kD (C:=C) c 24 hc).mono ?_;rintro e w2 ⟨rfl,ae⟩;have ac:PS C w2 (i+1) c ins 0:=(by rw[ae];exact bb);have D:Fr w1.heap.size [] w1 w2:=(by rw[ae];exact hdr);clear ae;have al:=hx1.carry ((D.wide (X:=[C.rb])).x (B:=w.heap.size+2) (by omega));have y1:=al.a;obtain ⟨-,-,d2,-⟩:=ac.cells;have z2:=ac.frozen 2;have bz:=D.size)
 obtain ⟨aj,n⟩:=ac.more
 have I:=al.carry (n.x (B:=w.heap.size+2) (by omega))
 have ag:(w2.setCell ⟨C.rb,2,none⟩ (.int .i64 ((c:Int)+1))).heap[sb]?=some (.cells (rA [] r la (.slice none 0 0) (.slice none 0 0) (.slice none 0 0) (.pointer none) (.slice none 0 0) (.slice none 0 0)) 223 (0,0)):=by rw[n.block sb (by omega) U,D.block sb (by omega) (by simp)];exact ay
 have ad:=(ax.up D.wide).up n
 have bp:=n.size
 clear d2 z2 y1 x1 c2
 generalize (w2.setCell ⟨C.rb,2,none⟩ (.int .i64 ((c:Int)+1)))=w3 at aj n I ag ad bp ⊢
 have ap:Fr w3.heap.size [] w3 w3.drew:=(Fr.refl _ _ _).drew
 have ak:=aj.same ap
 have a3:=I.a
 have b3:=I.b
 go_region_law
  (go_simp
   go_at_call 102
   refine (eZ ak).mono ?_
   rintro e w4 h4
   rcases h4.cases with ⟨f,J,q,rfl,hq⟩|⟨s4,v4,J,rfl,⟨rfl,bc⟩,av⟩
   ·exact ⟨rfl,by rw[(HE _ J (bJ l)).out];exact aR.x ⟨q,rfl,hq⟩ ((ad.x (aF4 _)).drew) (by (show w.heap.size≤w3.heap.size);omega) (by simp)⟩
   rw[sv]
   have j:=ap.wide.up av
   have Q:=I.carry (j.x (B:=w.heap.size+2) (by omega))
   have a4:=Q.a
   have b4:=Q.b
   have af:w4.heap[sb]?=some (.cells (rA [] r la (.slice none 0 0) (.slice none 0 0) (.slice none 0 0) (.pointer none) (.slice none 0 0) (.slice none 0 0)) 223 (0,0)):=by rw[j.block sb (by omega) U];exact ag
   obtain ⟨s0,bv⟩:=lU af 0 (.string ⟨#[]⟩) rfl
   have cb:=j.size
   have bn:=bc.put ai 0 (.string ⟨s4.toArray⟩)
   have br:(w4.setCell ⟨sb,0,none⟩ (.string ⟨s4.toArray⟩)).heap[sb]?=some (.cells (rA s4 r la (.slice none 0 0) (.slice none 0 0) (.slice none 0 0) (.pointer none) (.slice none 0 0) (.slice none 0 0)) 223 (0,0)):=heap_setCell_same w4 sb 0 _ 223 _ af
   have aa:=((ad.up j).x (sb:=sb) (aF4 _)).setCell (p:=⟨sb,0,none⟩) (.inr (by simp)) (.string ⟨s4.toArray⟩)
   have O:=Q.carry (((Fr.refl (w.heap.size+2) [C.rb,sb] w4)).setCell (p:=⟨sb,0,none⟩) (.inr (by simp)) (.string ⟨s4.toArray⟩))
   have a5:=O.a
   have b5:=O.b)
 all_goals
  go_wp2_with (first
   | (go_at_call 109;refine (cN bn ⟨#[59]⟩ ba.out).mono ?_;rintro e w6 ⟨rfl,az,u⟩;have ao:=u.size;have am:=O.carry ((u.wide (X:=[C.rb])).x (B:=w.heap.size+2) (by simp;omega));have q1:=am.a;have bq:X9 k (w.heap.size+2) sb w6 ⟨s4,r,la,[],[],[],.nil,[],[]⟩:=⟨_,_,_,_,_,_,_,_,_,_,_,SU.start (by rw[u.block sb (by simp;omega) (by simp)];exact br)⟩;have bj:Db C (w.heap.size+2) sb w6:=⟨by omega,by omega,ai,by simp at ao;omega⟩)
   | (go_at_call 103;refine (Co az bj bq ⟨by simp,by simp,by simp,by simp,by simp⟩ hR hk am).mono ?_;rintro e w7 h7;rcases h7.cases with ⟨f,Y,q,rfl,hq⟩|⟨x7,v7,Y,rfl,⟨rfl,aw,bm⟩,au⟩;(· exact ⟨rfl,by rw[(HO _ J (bJ l)).out,Y.out];obtain ⟨q1,q2,q3⟩:=hq;exact ⟨q,rfl,q1,by (simp at ao;have:=aa.size;simp at this;omega),(aa.trans ((u.wide (X:=[C.rb])).x (by simp;omega))).trans (q3.mono (by omega) (fun _ hx _=>hx))⟩⟩)))
  go_end0
  rw[(HO _ J (bJ l)).out,Y.out]
  exact ⟨_,rfl,⟨rfl,aw,bm⟩,(aa.trans ((u.wide (X:=[C.rb])).x (by simp;omega))).trans (au.mono (by omega) (fun _ hx _=>hx))⟩
theorem Kg {C:dV}{k sb ins i c:Nat}{w:World}{n la:Bool}(h:PS C w i c ins 0) (l:C.rb<sb) (j:w.heap[sb]?=some (.cells (rA [] n la (.slice none 0 0) (.slice none 0 0) (.slice none 0 0) (.pointer none) (.slice none 0 0) (.slice none 0 0)) 223 (0,0))) (s:Region C k) (r:ins+k=6):Calls Tryz.prog 151 #[.pointer (some ⟨C.rb,0,none⟩),.pointer (some ⟨sb,0,none⟩)] w (lS w.heap.size [C.rb,sb] (Uy C k (w.heap.size+2) sb ins) w (cP C.L (St k) (aW C.L k) n la c i)):=by
 by_cases hc:24≤c
 ·exact Dq h l j hc
 ·by_cases hse:tx C.L (i+2)=fE
  ·exact Dp h l j (by omega) hse
  ·exact m9 h l j (by omega) hse s r
end
section
open Go.RowKit Px
theorem Fr.stays {C:dV}{w w':World}{b:Nat}{o:Obj}(c:Fr w.heap.size [C.rb] w w') (hb:w.heap[b]?=some o) (h:C.rb<b):w'.heap[b]?=some o:=by
 rw[c.block b (aB hb) (by simp;omega)];exact hb
theorem Tryz.sizeState:(Tryz.prog.info? 223).map (·.size)=some 9:=by kernel_rfl
theorem aD5 {W:World}{g:Nat}{fc:Array Value}(hsz:fc.size=9) (hg:W.heap[g]?=some (.cells fc 223 (0,0))):(loadVar 223 ⟨g,0,none⟩).run Tryz.prog W=.ok (.agg fc) W:=
 run_loadVar_row (P:=Tryz.prog) W g 223 223 fc (0,0) _ hg Tryz.underlying223 rfl (by rw[hsz];exact Tryz.sizeState)
theorem Tryz.infoState:(Tryz.prog.info? 223).map (fun i=>(i.zero,i.size,i.bytes))=some (some (.agg #[.string ⟨#[]⟩,.bool false,.bool false,.slice none 0 0,.slice none 0 0,.slice none 0 0,.pointer none,.slice none 0 0,.slice none 0 0]),9,152):=by kernel_rfl
structure pG (k B:Nat) (w:World) (l:List (cF (St k))) (v:Value) (xs:List Value):Prop where
 own:w.ownsRow B 223 9 v l.length xs
 rows:Rows (Da (kE B v) w (aM (kE B v) w k)) l xs
theorem pG.done {k B:Nat}{w:World}{l:List (cF (St k))}{v:Value}{xs:List Value}(h:pG k B w l v xs):aM (Ge B) w (k+1) l v:=
 ⟨xs,⟨qN h.own,fun g hg=>(h.own.lt g hg).1⟩,h.rows.map (Da.carry nF (aM.carry nF k))⟩
theorem pG.carry {C:dV}{k B:Nat}{w w':World}{l:List (cF (St k))}{v:Value}{xs:List Value}(h:pG k B w l v xs) (hB:C.rb<B) (hf:Fr w.heap.size [C.rb] w w'):pG k B w' l v xs:=
 ⟨qM h.own hB hf,h.rows.map (Da.carry (tJ hB hf) (aM.carry (tJ hB hf) k))⟩
theorem Z9 {C:dV}{k B:Nat}{w wr w5 w6:World}{l:List (cF (St k))}{v c:Value}{J cs:List Value}{s:cF (St k)}{o:Obj}(hB:C.rb<B) (n:B≤wr.heap.size) (h:pG k B wr l v J) (y:Fr wr.heap.size [C.rb] wr w5) (X:Fr B [C.rb] w wr) (Z:Da (Ge wr.heap.size) w5 (aM (Ge wr.heap.size) w5 k) s cs)
    (r:w6.ownsRow B 223 9 c (l.length+1) (J++cs)) (j:(w5.alloc o).grownBy w6 v.ownBlock) (u:c.ownBlock=v.ownBlock\/c.ownBlock=some (w5.alloc o).heap.size) :
    pG k B w6 (l++[s]) c (J++cs)/\Fr B [C.rb] w w6:=by
 have I:=y.size
 have Q:∀A:Nat->Prop,bB A A w5 (w5.alloc o):=fun A b e hb=>⟨e,Below.heap_alloc _ _ _ hb⟩
 have O:bB (kE B v) (kE B c) wr w6:=sZ ((tJ hB y).trans (Q _) I) (by simp;omega) j u
 have D:∀g,v.ownBlock=some g->g<wr.heap.size:=fun g j=>(h.own.lt g j).2
 have U:bB (Ge wr.heap.size) (kE B c) w5 w6:=((Bj n D).trans (sZ (Q _) (by simp) j u) (aF4 _))
 refine ⟨⟨by rw[aH7];exact r,(h.rows.map (Da.carry O (aM.carry O k))).append (Rows.one (Da.carry U (aM.carry U k) _ _ Z))⟩,?_⟩
 exact ((X.up' y n).alloc (by omega) o).grown j (by simp;omega) (fun k Y=>.inl (h.own.lt k Y).1)
theorem qH.shape {A:Nat->Prop}{w:World}{l:List Wy}{v:Value}(h:qH A w l v):∃ao n cap,v=.slice ao n cap:=by
 obtain ⟨j,c,_⟩:=h
 obtain ⟨ao,cap,rfl⟩:=aP c.1
 exact ⟨ao,_,cap,rfl⟩
theorem gP.shape {ρ:Type}{A:Nat->Prop}{w:World}{I:List ρ->Value->Prop}{l:List (List ρ)}{v:Value}(h:gP A w I l v):∃ao n cap,v=.slice ao n cap:=by
 obtain ⟨j,c,_⟩:=h
 obtain ⟨ao,cap,rfl⟩:=aP c.1
 exact ⟨ao,_,cap,rfl⟩
theorem Da.shapes {ρ:Type}{A:Nat->Prop}{w:World}{I:List ρ->Value->Prop}{s:cF ρ}{e d l p y r:Value}(h:Da A w I s (rA s.name s.first s.last e d l p y r).toList) :
    (∃a n c,e=.slice a n c)/\(∃a n c,d=.slice a n c)/\(∃a n c,l=.slice a n c)/\(∃u,p=.pointer u)/\(∃a n c,y=.slice a n c)/\(∃a n c,r=.slice a n c):=by
 obtain ⟨X,d',Z,p',Y,r',j,D,k,U,J,O,Q⟩:=h
 simp at j
 obtain ⟨rfl,rfl,rfl,rfl,rfl,rfl⟩:=j
 exact ⟨D.shape,k.shape,U.shape,J.ptr,O.shape,Q.shape⟩
end
end Go.Proofs.YthieaobjdpfcoaaGreatDoor
