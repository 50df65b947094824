import Derived.Test.YthieaobjdpfcoaaGreatDoorVPpart
import Derived.Test.YthieaobjdpfcoaaGreatDoorVPpart2
import Derived.StillTailTactics
set_option maxRecDepth 100000
set_option maxHeartbeats 8000000
namespace Go.Proofs.YthieaobjdpfcoaaGreatDoor
section
open Go.RowKit Px
theorem xF {L:List Lx.fQ}{i m:Nat}(h:pD L i=.ok m):i<m:=by
 rw[pD] at h
 split at h
 ·injection h with h;omega
 ·exact absurd h (by simp)
theorem pT (L:List Lx.fQ) (k:bE) (i:Nat):i≤kH L k i:=by unfold kH;split<;>omega
theorem Wr {L:List Lx.fQ}{ρ:Type}{n:Nat->Nat->Except F (List ρ×Nat×Nat)}(u:∀c i l r j,n c i=.ok (l,r,j)->i<j) {s s':cF ρ}{c i r j:Nat}(h:Px.eF L ρ n s c i=.ok (some (s',r,j))):i<j:=by
 rw[Px.eF] at h
 split at h
 ·split at h
  ·exact absurd h (by simp)
  ·rename_i hy
   have:=Ol hy
   injection h with h;injection h with h;injection h with _ h;injection h with _ h;omega
 ·split at h
  ·split at h
   ·exact absurd h (by simp)
   ·rename_i hy
    have:=u _ _ _ _ _ hy
    injection h with h;injection h with h;injection h with _ h;injection h with _ h;omega
  ·split at h
   ·split at h
    ·exact absurd h (by simp)
    ·rename_i hy
     have k:=(lI _ _ _ _ _ hy).1
     simp at k
     split at h
     ·exact absurd h (by simp)
     ·rename_i hm
      have:=xF hm
      injection h with h;injection h with h;injection h with _ h;injection h with _ h;omega
   ·split at h
    ·split at h
     ·exact absurd h (by simp)
     ·rename_i hy
      have k:=(lI _ _ _ _ _ hy).1
      simp at k
      split at h
      ·exact absurd h (by simp)
      ·rename_i hm
       have:=xF hm
       injection h with h;injection h with h;injection h with _ h;injection h with _ h;omega
    ·split at h
     ·split at h
      ·exact absurd h (by simp)
      ·rename_i hy
       have k:=(lI _ _ _ _ _ hy).1
       simp at k
       split at h
       ·exact absurd h (by simp)
       ·rename_i hm
        have:=xF hm
        injection h with h;injection h with h;injection h with _ h;injection h with _ h;omega
     ·split at h
      ·split at h
       ·split at h
        ·exact absurd h (by simp)
        ·rename_i hy
         have k:=qV hy
         split at h
         ·exact absurd h (by simp)
         ·rename_i hm
          have:=xF hm
          injection h with h;injection h with h;injection h with _ h;injection h with _ h;omega
       ·exact absurd h (by simp)
      ·exact absurd h (by simp)
theorem Qi {L:List Lx.fQ}{ρ:Type}{n:Nat->Nat->Except F (List ρ×Nat×Nat)}(r:∀c i l k j,n c i=.ok (l,k,j)->i<j):∀(f:Nat) (s:cF ρ) (c i:Nat) (s':cF ρ) (k j:Nat),parts L ρ n f s c i=.ok (s',k,j)->i≤j:=by
 intro f
 induction f with
 | zero=>intro s c i s' k j h;rw[parts] at h;injection h with h;injection h with _ h;injection h with _ h;omega
 | succ f ih=>
  intro s c i s' k j h
  rw[parts] at h
  split at h
  ·exact absurd h (by simp)
  ·split at h
   ·injection h with h;injection h with _ h;injection h with _ h;omega
   ·exact absurd h (by simp)
  ·rename_i hp
   have y:=Wr r hp
   have u:=ih _ _ _ _ _ _ h
   omega
theorem j9 {L:List Lx.fQ}{ρ:Type}{k:Nat->Nat->Except F (List ρ×Nat×Nat)}(r:∀c i l n j,k c i=.ok (l,n,j)->i<j) {u la:Bool}{c i n j:Nat}{s:cF ρ}(h:cP L ρ k u la c i=.ok (s,n,j)):i<j:=by
 rw[cP] at h
 split at h
 ·split at h
  ·exact absurd h (by simp)
  ·split at h
   ·exact absurd h (by simp)
   ·split at h
    ·injection h with h;injection h with _ h;injection h with _ h;omega
    ·split at h
     ·have:=Qi r _ _ _ _ _ _ _ h;omega
     ·exact absurd h (by simp)
 ·exact absurd h (by simp)
theorem Kf {L:List Lx.fQ}{ρ:Type}{n:Nat->Nat->Except F (List ρ×Nat×Nat)}(s:∀c i l k j,n c i=.ok (l,k,j)->i<j):∀(f:Nat) (l:List (cF ρ)) (c i:Nat) (r:List (cF ρ)) (k j:Nat),states L ρ n f l c i=.ok (r,k,j)->i≤j:=by
 intro f
 induction f with
 | zero=>intro l c i r k j h;rw[states] at h;injection h with h;injection h with _ h;injection h with _ h;omega
 | succ f ih=>
  intro l c i r k j h
  rw[states] at h
  split at h
  ·split at h
   ·exact absurd h (by simp)
   ·rename_i hs
    have D:=j9 s hs
    have u:=ih _ _ _ _ _ _ h
    have I:=pT L dO i
    have y:=pT L iC (kH L dO i)
    omega
  ·split at h
   ·injection h with h;injection h with _ h;injection h with _ h;omega
   ·exact absurd h (by simp)
theorem uW {L:List Lx.fQ}:∀(k c i:Nat) (l:List (St k)) (r j:Nat),aW L k c i=.ok (l,r,j)->i<j:=by
 intro k
 induction k with
 | zero=>intro c i l r j h;rw[aW] at h;exact absurd h (by simp)
 | succ k ih=>
  intro c i l r j h
  have n:(if tx L i=fF then states L (St k) (aW L k) L.length [] c (i+1) else .error (3,pl L i))=.ok (l,r,j):=h
  by_cases ho:tx L i=fF
  ·rw[if_pos ho] at n
   have:=Kf ih _ _ _ _ _ _ _ n;omega
  ·rw[if_neg ho] at n
   exact absurd n (by simp)
end
section
open Go.RowKit Px
theorem Nm {C:dV}{w:World}{i st ins:Nat}{c1 c2:Value}(h:PS C w i st ins 0) (R:Ending->World->Prop) (Inv:Nat->World->Prop) (Fin:World->Prop) (g0:Nat)
    (r:tx C.L i≠fF->∀e w',aR C w (3,pl C.L i) e w'->R e w')
    (c:tx C.L i=fF->∀w1,PS C w1 (i+1) st ins 0->Fr w.heap.size [C.rb] w w1->Inv g0 w1)
    (k:∀g w1,Inv g w1->Calls Tryz.prog 195 #[c1,c2] w1 fun e w2=>(e=.returned (.bool true)/\∃g',g'<g/\Inv g' w2)\/(e=.returned (.bool false)/\Fin w2)\/(∃ch,e=.panicked ch/\R e w2))
    (s:∀w2,Fin w2->∃j st',PS C w2 j st' ins 0/\(tx C.L j≠jM->∀e w3,aR C w2 (3,pl C.L j) e w3->R e w3)/\(tx C.L j=jM->∀w3,PS C w3 (j+1) st' ins 0->Fr w2.heap.size [C.rb] w2 w3->R (.returned (.tuple #[])) w3)) :
    Calls Tryz.prog 103 #[.pointer (some ⟨C.rb,0,none⟩),.func (.func 195) #[] #[c1,c2]] w R:=by
 have HE:Hid _:=r
 have HS:Hid _:=c
 have HR:Hid _:=k
 have HF:Hid _:=s
 clear r c k s
 go_enter Tryz.func103,Tryz.ntmps103
 go_wp2_with (go_at_call 101;refine (cD h ⟨#[123]⟩ fF rfl (by decide)).mono ?_;rintro e w1 h1;rcases h1.cases with ⟨f,l,q,rfl,O⟩|⟨_,v1,l,rfl,⟨rfl,D⟩,ab⟩;(· exact ⟨rfl,HE.out (aV l).1 _ _ (by rw[<-(aV l).2];exact ⟨q,rfl,O⟩)⟩))
 have hI:Hid _:=HS.out (bJ l) w1 D ab
 go_loopg [] g0 (fun g wr=>Hid (Inv g wr))
 case atStart=>exact hI
 case round=>
  go_wp2_with fail
  refine (HR.out _ _ hrel.out).mono ?_
  rintro e w2 (⟨rfl,g',J,Q⟩|⟨rfl,aa⟩|⟨ch,rfl,hR⟩)
  ·go_wp2_with fail
   go_roundg g'
   case measure=>exact J
   case rel=>exact Q
  ·obtain ⟨j,st',X,y,u⟩:=HF.out w2 aa
   have Y:Hid _:=y
   have Z:Hid _:=u
   clear y u
   go_wp2_with (go_at_call 101;refine (cD X ⟨#[125]⟩ jM rfl (by decide)).mono ?_;rintro e w3 h3;rcases h3.cases with ⟨f,n,q,rfl,O⟩|⟨_,v3,n,rfl,⟨rfl,U⟩,I⟩;(· exact ⟨rfl,Y.out (aV n).1 _ _ (by rw[<-(aV n).2];exact ⟨q,rfl,O⟩)⟩))
   go_end0
   exact Z.out (bJ n) w3 U I
  ·exact ⟨rfl,hR⟩
end
section
open Go.RowKit Px
theorem lS.cases {B:Nat}{X:List Nat}{α:Type}{ok:α->Value->World->Prop}{w:World}{r:Except F α}{e:Ending}{w':World}(h:lS B X ok w r e w'):(∃f,Hid (r=.error f)/\iV B X w f e w')\/(∃a v,Hid (r=.ok a)/\e=.returned v/\ok a v w'/\Fr B X w w'):=by
 cases r with
 | error f=>exact .inl ⟨f,rfl,h⟩
 | ok a=>obtain ⟨v,c,k,j⟩:=h;exact .inr ⟨a,v,rfl,c,k,j⟩
theorem iV.up {B:Nat}{X:List Nat}{w w1 w':World}{f:F}{e:Ending}(h:iV B X w1 f e w') (c:Fr B X w w1):iV B X w f e w':=by
 obtain ⟨q,j,l,k,n⟩:=h
 exact ⟨q,j,l,aO4 c.size k,c.trans n⟩
structure wX (C:dV) (B sb ba bb:Nat) (w:World):Prop where
 a:w.cell? ⟨ba,0,none⟩=some (.pointer (some ⟨C.rb,0,none⟩))
 b:w.cell? ⟨bb,0,none⟩=some (.pointer (some ⟨sb,0,none⟩))
 la:ba<B
 lb:bb<B
 na:ba∉[C.rb,sb]
 nb:bb∉[C.rb,sb]
theorem wX.carry {C:dV}{B sb ba bb:Nat}{w w':World}(h:wX C B sb ba bb w) (hf:Fr B [C.rb,sb] w w'):wX C B sb ba bb w':=
 ⟨by rw[hf.cell (p:=⟨ba,0,none⟩) h.la h.na];exact h.a,by rw[hf.cell (p:=⟨bb,0,none⟩) h.lb h.nb];exact h.b,h.la,h.lb,h.na,h.nb⟩
theorem Ds {C:dV}{k B sb ins i c n l:Nat}{w:World}{s:cF (St k)}(h:PS C w i c ins 0) (u:Db C B sb w) (O:X9 k B sb w s) (hb:Bd i s) (Q:Region C k) (D:ins+k=6) (hx:wX C B sb n l w) :
    Calls Tryz.prog 195 #[.pointer (some ⟨n,0,none⟩),.pointer (some ⟨l,0,none⟩)] w (lS B [C.rb,sb] (mU C k B sb ins i c s) w (Px.eF C.L (St k) (aW C.L k) s c i)):=by
 have Y:=hx.a
 have X:=hx.b
 have r:=Qk h u O hb Q D (uW k)
 go_enter Tryz.func195,Tryz.ntmps195
 go_wp2_with (go_at_call 196;refine r.mono ?_;rintro e w1 U;rcases U.cases with ⟨f,j,q,rfl,I⟩|⟨a,v,j,rfl,J,y⟩;(· exact ⟨rfl,by rw[j.out];exact ⟨q,rfl,I⟩⟩))
 go_ret
 rw[j.out]
 exact ⟨v,rfl,J,y⟩
def Uy (C:dV) (k B sb ins:Nat) (x:cF (St k)×Nat×Nat) (v:Value) (w':World):Prop:=v=.tuple #[]/\PS C w' x.2.2 x.2.1 ins 0/\X9 k B sb w' x.1
theorem Db.carry {C:dV}{B sb:Nat}{w w':World}(h:Db C B sb w) (hs:w.heap.size≤w'.heap.size):Db C B sb w':=⟨h.hrb,h.hsb,h.hne,aO4 h.hB hs⟩
theorem Co {C:dV}{k B sb ins i c ba bb:Nat}{w:World}{s:cF (St k)}(h:PS C w i c ins 0) (hE:Db C B sb w) (hS:X9 k B sb w s) (hb:Bd i s) (hR:Region C k) (hk:ins+k=6) (hx:wX C B sb ba bb w) :
    Calls Tryz.prog 103 #[.pointer (some ⟨C.rb,0,none⟩),.func (.func 195) #[] #[.pointer (some ⟨ba,0,none⟩),.pointer (some ⟨bb,0,none⟩)]] w
     (lS B [C.rb,sb] (Uy C k B sb ins) w (if tx C.L i=fF then parts C.L (St k) (aW C.L k) C.L.length s c (i+1) else .error (3,pl C.L i))):=by
 obtain ⟨Q,J⟩:∃Q,Q=(if tx C.L i=fF then parts C.L (St k) (aW C.L k) C.L.length s c (i+1) else .error (3,pl C.L i)):=⟨_,rfl⟩
 rw[<-J]
 have hX:∀x∈[C.rb],x<B:=by have:=hE.hrb;simp;omega
 have ac:sb∉[C.rb]:=by have:=hE.hne;simp;omega
 have U:∀{w1 w2:World}{D:cF (St k)},X9 k B sb w1 D->Fr w1.heap.size [C.rb] w1 w2->X9 k B sb w2 D:=by
  rintro w1 w2 D ⟨e,d,l,p,y,r,xe,xd,xl,xy,xr,hs⟩ hf
  exact ⟨e,d,l,p,y,r,xe,xd,xl,xy,xr,hs.carry hX ac hf⟩
 refine Nm h _ (fun g w1=>∃(D:cF (St k)) (c1 j:Nat),Q=parts C.L (St k) (aW C.L k) g D c1 j/\C.L.length≤g+j/\Bd j D/\PS C w1 j c1 ins 0/\X9 k B sb w1 D/\Fr B [C.rb,sb] w w1)
  (fun w2=>∃(D:cF (St k)) (c1 j:Nat),Q=(if tx C.L j=jM then .ok (D,c1,j+1) else .error (3,pl C.L j))/\PS C w2 j c1 ins 0/\X9 k B sb w2 D/\Fr B [C.rb,sb] w w2) C.L.length ?_ ?_ ?_ ?_
 ·intro hn e w' ht
  rw[J,if_neg hn]
  exact ht.x (Fr.refl _ _ _) hE.hB (by simp)
 ·intro ho w1 u n
  refine ⟨s,c,i+1,by rw[J,if_pos ho],by omega,⟨by have:=hb.e;omega,by have:=hb.d;omega,by have:=hb.l;omega,by have:=hb.y;omega,by have:=hb.r;omega⟩,u,U hS n,n.x hE.hB⟩
 ·rintro g w1 ⟨D,c1,j,I,hg,af,u,X,n⟩
  obtain ⟨g',rfl⟩:∃g',g=g'+1:=⟨g-1,by have:=u.lt;omega⟩
  refine (Ds u (hE.carry n.size) X af hR hk (hx.carry n)).mono ?_
  rintro e w2 h2
  rcases h2.cases with ⟨f,O,ht⟩|⟨o,v,O,rfl,hv,ab⟩
  ·refine .inr (.inr ?_)
   obtain ⟨q,rfl,hq⟩:=ht
   refine ⟨_,rfl,?_⟩
   rw[I,parts,O.out]
   exact iV.up ⟨q,rfl,hq⟩ n
  ·cases o with
   | none=>
    obtain ⟨rfl,Y,Z⟩:=hv
    exact .inr (.inl ⟨rfl,D,c1,j,by rw[I,parts,O.out],Y,Z,n.trans ab⟩)
   | some x=>
    obtain ⟨s2,c2,j2⟩:=x
    obtain ⟨rfl,ag,ae,Y,Z⟩:=hv
    exact .inl ⟨rfl,g',by omega,s2,c2,j2,by rw[I,parts,O.out],by omega,ae,Y,Z,n.trans ab⟩
 ·rintro w2 ⟨D,c1,j,I,u,X,n⟩
  refine ⟨j,c1,u,fun hn e w3 ht=>?_,fun ho w3 ad aa=>?_⟩
  ·rw[I,if_neg hn]
   exact ht.x n (aO4 hE.hB n.size) (by simp)
  ·rw[I,if_pos ho]
   exact ⟨_,rfl,⟨rfl,ad,U X aa⟩,n.trans (aa.x (aO4 hE.hB n.size))⟩
theorem SU.start {k B sb:Nat}{w:World}{nm:bE}{c la:Bool}(h:w.heap[sb]?=some (.cells (rA nm c la (.slice none 0 0) (.slice none 0 0) (.slice none 0 0) (.pointer none) (.slice none 0 0) (.slice none 0 0)) 223 (0,0))) :
    SU k B sb w ⟨nm,c,la,[],[],[],.nil,[],[]⟩ (.slice none 0 0) (.slice none 0 0) (.slice none 0 0) (.pointer none) (.slice none 0 0) (.slice none 0 0) [] [] [] [] []:=by
 refine ⟨h,⟨fun x hx=>?_,?_,fun x hx=>?_⟩⟩
 ·simp only[aZ,aV8,List.not_mem_nil,or_false] at hx
  rcases hx with rfl|rfl|rfl|rfl|rfl|rfl<;>exact aY5 _ _ _ _
 ·simp[aZ,cE,kP,iL,dW,Value.ownBlock]
 ·simp only[aZ,aV8,List.not_mem_nil,or_false] at hx
  rcases hx with rfl|rfl|rfl|rfl|rfl|rfl<;>rfl
end
section
open Go.RowKit Px
theorem Dq {C:dV}{k sb ins i c:Nat}{w:World}{u la:Bool}(h:PS C w i c ins 0) (ad:C.rb<sb) (s:w.heap[sb]?=some (.cells (rA [] u la (.slice none 0 0) (.slice none 0 0) (.slice none 0 0) (.pointer none) (.slice none 0 0) (.slice none 0 0)) 223 (0,0))) (hc:24≤c):Calls Tryz.prog 151 #[.pointer (some ⟨C.rb,0,none⟩),.pointer (some ⟨sb,0,none⟩)] w (lS w.heap.size [C.rb,sb] (Uy C k (w.heap.size+2) sb ins) w (cP C.L (St k) (aW C.L k) u la c i)):=by
 have hC:=h.lts.1
 have J:=aB s
 obtain ⟨Y,y⟩:=h.alloc (.cells #[.pointer (some ⟨C.rb,0,none⟩)] 168)
 obtain ⟨U,D⟩:=Y.alloc (.cells #[.pointer (some ⟨sb,0,none⟩)] 225)
 have n:=y.up D
 have ab:((w.alloc (.cells #[.pointer (some ⟨C.rb,0,none⟩)] 168)).alloc (.cells #[.pointer (some ⟨sb,0,none⟩)] 225)).heap.size=w.heap.size+2:=by simp
 have Z:wX C (w.heap.size+2) sb w.heap.size (w.heap.size+1) ((w.alloc (.cells #[.pointer (some ⟨C.rb,0,none⟩)] 168)).alloc (.cells #[.pointer (some ⟨sb,0,none⟩)] 225)):=⟨by simp,by simp,by omega,by omega,by simp;omega,by simp;omega⟩
 have Q:((w.alloc (.cells #[.pointer (some ⟨C.rb,0,none⟩)] 168)).alloc (.cells #[.pointer (some ⟨sb,0,none⟩)] 225)).heap[sb]?=some (.cells (rA [] u la (.slice none 0 0) (.slice none 0 0) (.slice none 0 0) (.pointer none) (.slice none 0 0) (.slice none 0 0)) 223 (0,0)):=by rw[n.block sb J (by simp;omega)];exact s
 have aa:sb∉[C.rb]:=by simp;omega
 go_enter Tryz.func151,Tryz.ntmps151
 go_wp2_with (go_at_call 101;refine (cD U ⟨#[115,116,97,116,101]⟩ gZ rfl (by decide)).mono ?_;rintro e w1 h1;rcases h1.cases with ⟨f,j,q,rfl,I⟩|⟨_,v1,j,rfl,⟨rfl,r⟩,l⟩;(· exact ⟨rfl,by rw[cP,if_neg (aV j).1,<-(aV j).2];exact aR.x ⟨q,rfl,I⟩ (n.x (aN4 _)) (by omega) (by simp)⟩))
 have hx1:=Z.carry (l.x (by omega))
 have ae:w1.heap[sb]?=some (.cells (rA [] u la (.slice none 0 0) (.slice none 0 0) (.slice none 0 0) (.pointer none) (.slice none 0 0) (.slice none 0 0)) 223 (0,0)):=by rw[l.block sb (by omega) aa];exact Q
 have O:=n.up l
 have ac:=l.size
 have x1:=hx1.a
 obtain ⟨-,-,c2,-⟩:=r.cells
 have hdr:Fr w1.heap.size [] w1 w1.drew:=(Fr.refl _ _ _).drew
 have X:=r.same hdr
 go_still_tail 5,(by kernel_rfl)
 go_wp2_with (go_at_call 107;refine (nZ X c 24 hc).mono ?_;rintro e w2 ⟨q,rfl,I⟩;exact ⟨rfl,by rw[cP,if_pos (bJ j),if_pos hc];exact aR.x ⟨q,rfl,I⟩ ((O.x (aN4 _)).drew) (by (show w.heap.size≤w1.heap.size);omega) (by simp)⟩)
theorem Dp {C:dV}{k sb ins i c:Nat}{w:World}{r la:Bool}(h:PS C w i c ins 0) (ao:C.rb<sb) (ai:w.heap[sb]?=some (.cells (rA [] r la (.slice none 0 0) (.slice none 0 0) (.slice none 0 0) (.pointer none) (.slice none 0 0) (.slice none 0 0)) 223 (0,0))) (hc:c<24) (aa:tx C.L (i+2)=fE):Calls Tryz.prog 151 #[.pointer (some ⟨C.rb,0,none⟩),.pointer (some ⟨sb,0,none⟩)] w (lS w.heap.size [C.rb,sb] (Uy C k (w.heap.size+2) sb ins) w (cP C.L (St k) (aW C.L k) r la c i)):=by
 have hC:=h.lts.1
 have ay:=aB ai
 obtain ⟨bg,al⟩:=h.alloc (.cells #[.pointer (some ⟨C.rb,0,none⟩)] 168)
 obtain ⟨be,aw⟩:=bg.alloc (.cells #[.pointer (some ⟨sb,0,none⟩)] 225)
 have Q:=al.up aw
 have bk:((w.alloc (.cells #[.pointer (some ⟨C.rb,0,none⟩)] 168)).alloc (.cells #[.pointer (some ⟨sb,0,none⟩)] 225)).heap.size=w.heap.size+2:=by simp
 have av:wX C (w.heap.size+2) sb w.heap.size (w.heap.size+1) ((w.alloc (.cells #[.pointer (some ⟨C.rb,0,none⟩)] 168)).alloc (.cells #[.pointer (some ⟨sb,0,none⟩)] 225)):=⟨by simp,by simp,by omega,by omega,by simp;omega,by simp;omega⟩
 have ba:((w.alloc (.cells #[.pointer (some ⟨C.rb,0,none⟩)] 168)).alloc (.cells #[.pointer (some ⟨sb,0,none⟩)] 225)).heap[sb]?=some (.cells (rA [] r la (.slice none 0 0) (.slice none 0 0) (.slice none 0 0) (.pointer none) (.slice none 0 0) (.slice none 0 0)) 223 (0,0)):=by rw[Q.block sb ay (by simp;omega)];exact ai
 have u:sb∉[C.rb]:=by simp;omega
 have bm:∀(fn:Fn) (first cap:Array Value) (w:World),(Instr.makeFunc fn first cap).run Tryz.prog w=.ok (.func fn first cap) w:=fun _ _ _ _=>rfl
 have HO:∀s,Hid (nm C.L (i+1)=.ok s)->tx C.L i=gZ->Hid (cP C.L (St k) (aW C.L k) r la c i=.ok (⟨s,r,la,[],[],[],.nil,[],[]⟩,c+1,i+3)):=fun s hs ht=>by rw[Hid,cP,if_pos ht,if_neg (by omega),hs.out];simp only;rw[if_pos aa]
 have HE:∀f,Hid (nm C.L (i+1)=.error f)->tx C.L i=gZ->Hid (cP C.L (St k) (aW C.L k) r la c i=.error f):=fun f hs ht=>by rw[Hid,cP,if_pos ht,if_neg (by omega),hs.out]
 have bc:Hid _:=aa
 clear aa
 go_enter Tryz.func151,Tryz.ntmps151
 go_wp2_with (go_at_call 101;refine (cD be ⟨#[115,116,97,116,101]⟩ gZ rfl (by decide)).mono ?_;rintro e w1 h1;rcases h1.cases with ⟨f,l,q,rfl,hq⟩|⟨_,v1,l,rfl,⟨rfl,ag⟩,I⟩;(· exact ⟨rfl,by rw[cP,if_neg (aV l).1,<-(aV l).2];exact aR.x ⟨q,rfl,hq⟩ (Q.x (aN4 _)) (by omega) (by simp)⟩))
 have hx1:=av.carry (I.x (by omega))
 have bh:w1.heap[sb]?=some (.cells (rA [] r la (.slice none 0 0) (.slice none 0 0) (.slice none 0 0) (.pointer none) (.slice none 0 0) (.slice none 0 0)) 223 (0,0)):=by rw[I.block sb (by omega) u];exact ba
 have ap:=Q.up I
 have bn:=I.size
 have x1:=hx1.a
 obtain ⟨-,-,c2,-⟩:=ag.cells
 have hdr:Fr w1.heap.size [] w1 w1.drew:=(Fr.refl _ _ _).drew
 have bf:=ag.same hdr
 go_still_tail 5,(by kernel_rfl)
 go_wp2_with (go_at_call 107;refine (kD (C:=C) c 24 hc).mono ?_;rintro e w2 ⟨rfl,J⟩;have Y:PS C w2 (i+1) c ins 0:=(by rw[J];exact bf);have D:Fr w1.heap.size [] w1 w2:=(by rw[J];exact hdr);clear J;have ab:=hx1.carry ((D.wide (X:=[C.rb])).x (B:=w.heap.size+2) (by omega));have y1:=ab.a;obtain ⟨-,-,d2,-⟩:=Y.cells;have z2:=Y.frozen 2;have bi:=D.size)
 obtain ⟨ad,n⟩:=Y.more
 have y:=ab.carry (n.x (B:=w.heap.size+2) (by omega))
 have ak:(w2.setCell ⟨C.rb,2,none⟩ (.int .i64 ((c:Int)+1))).heap[sb]?=some (.cells (rA [] r la (.slice none 0 0) (.slice none 0 0) (.slice none 0 0) (.pointer none) (.slice none 0 0) (.slice none 0 0)) 223 (0,0)):=by rw[n.block sb (by omega) u,D.block sb (by omega) (by simp)];exact bh
 have O:=(ap.up D.wide).up n
 have au:=n.size
 clear d2 z2 y1 x1 c2
 generalize (w2.setCell ⟨C.rb,2,none⟩ (.int .i64 ((c:Int)+1)))=w3 at ad n y ak O au ⊢
 have ac:Fr w3.heap.size [] w3 w3.drew:=(Fr.refl _ _ _).drew
 have af:=ad.same ac
 have a3:=y.a
 have b3:=y.b
 go_region_law
  (go_simp
   go_at_call 102
   refine (eZ af).mono ?_
   rintro e w4 h4
   rcases h4.cases with ⟨f,Z,q,rfl,hq⟩|⟨s4,v4,Z,rfl,⟨rfl,ar⟩,bb⟩
   ·exact ⟨rfl,by rw[(HE _ Z (bJ l)).out];exact aR.x ⟨q,rfl,hq⟩ ((O.x (aN4 _)).drew) (by (show w.heap.size≤w3.heap.size);omega) (by simp)⟩
   rw[sv]
   have j:=ac.wide.up bb
   have U:=y.carry (j.x (B:=w.heap.size+2) (by omega))
   have a4:=U.a
   have b4:=U.b
   have aj:w4.heap[sb]?=some (.cells (rA [] r la (.slice none 0 0) (.slice none 0 0) (.slice none 0 0) (.pointer none) (.slice none 0 0) (.slice none 0 0)) 223 (0,0)):=by rw[j.block sb (by omega) u];exact ak
   obtain ⟨s0,bj⟩:=lU aj 0 (.string ⟨#[]⟩) rfl
   have bo:=j.size
   have ax:=ar.put ao 0 (.string ⟨s4.toArray⟩)
   have az:(w4.setCell ⟨sb,0,none⟩ (.string ⟨s4.toArray⟩)).heap[sb]?=some (.cells (rA s4 r la (.slice none 0 0) (.slice none 0 0) (.slice none 0 0) (.pointer none) (.slice none 0 0) (.slice none 0 0)) 223 (0,0)):=heap_setCell_same w4 sb 0 _ 223 _ aj
   have am:=((O.up j).x (sb:=sb) (aN4 _)).setCell (p:=⟨sb,0,none⟩) (.inr (by simp)) (.string ⟨s4.toArray⟩)
   have ae:=U.carry (((Fr.refl (w.heap.size+2) [C.rb,sb] w4)).setCell (p:=⟨sb,0,none⟩) (.inr (by simp)) (.string ⟨s4.toArray⟩))
   have a5:=ae.a
   have b5:=ae.b)
 all_goals
  go_wp2_with (go_at_call 109;refine (dM ax ⟨#[59]⟩ bc.out (by decide)).mono ?_;rintro e w6 ⟨rfl,an,ah⟩)
  first
   | go_end0
   | refine aY7 (results_none rfl _ _ _) rfl ?_
  rw[(HO _ Z (bJ l)).out]
  exact ⟨_,rfl,⟨rfl,an,⟨_,_,_,_,_,_,_,_,_,_,_,SU.start (by rw[ah.block sb (by simp;omega) u];exact az)⟩⟩,am.trans (ah.x (by simp;omega))⟩
theorem m9 {C:dV}{k sb ins i c:Nat}{w:World}{u la:Bool}(h:PS C w i c ins 0) (aj:C.rb<sb) (an:w.heap[sb]?=some (.cells (rA [] u la (.slice none 0 0) (.slice none 0 0) (.slice none 0 0) (.pointer none) (.slice none 0 0) (.slice none 0 0)) 223 (0,0))) (hc:c<24) (ae:tx C.L (i+2)≠fE) (hR:Region C k) (hk:ins+k=6):Calls Tryz.prog 151 #[.pointer (some ⟨C.rb,0,none⟩),.pointer (some ⟨sb,0,none⟩)] w (lS w.heap.size [C.rb,sb] (Uy C k (w.heap.size+2) sb ins) w (cP C.L (St k) (aW C.L k) u la c i)):=by
 have hC:=h.lts.1
 have bf:=aB an
 obtain ⟨bp,ar⟩:=h.alloc (.cells #[.pointer (some ⟨C.rb,0,none⟩)] 168)
 obtain ⟨bn,bb⟩:=bp.alloc (.cells #[.pointer (some ⟨sb,0,none⟩)] 225)
 have Y:=ar.up bb
 have bv:((w.alloc (.cells #[.pointer (some ⟨C.rb,0,none⟩)] 168)).alloc (.cells #[.pointer (some ⟨sb,0,none⟩)] 225)).heap.size=w.heap.size+2:=by simp
 have ba:wX C (w.heap.size+2) sb w.heap.size (w.heap.size+1) ((w.alloc (.cells #[.pointer (some ⟨C.rb,0,none⟩)] 168)).alloc (.cells #[.pointer (some ⟨sb,0,none⟩)] 225)):=⟨by simp,by simp,by omega,by omega,by simp;omega,by simp;omega⟩
 have bi:((w.alloc (.cells #[.pointer (some ⟨C.rb,0,none⟩)] 168)).alloc (.cells #[.pointer (some ⟨sb,0,none⟩)] 225)).heap[sb]?=some (.cells (rA [] u la (.slice none 0 0) (.slice none 0 0) (.slice none 0 0) (.pointer none) (.slice none 0 0) (.slice none 0 0)) 223 (0,0)):=by rw[Y.block sb bf (by simp;omega)];exact an
 have ac:sb∉[C.rb]:=by simp;omega
 have bw:∀(fn:Fn) (first cap:Array Value) (w:World),(Instr.makeFunc fn first cap).run Tryz.prog w=.ok (.func fn first cap) w:=fun _ _ _ _=>rfl
 have HO:∀s,Hid (nm C.L (i+1)=.ok s)->tx C.L i=gZ->Hid (cP C.L (St k) (aW C.L k) u la c i=if tx C.L (i+2)=fF then parts C.L (St k) (aW C.L k) C.L.length ⟨s,u,la,[],[],[],.nil,[],[]⟩ (c+1) (i+2+1) else .error (3,pl C.L (i+2))):=fun s hs ht=>by rw[Hid,cP,if_pos ht,if_neg (by omega),hs.out];simp only;rw[if_neg ae]
 have HE:∀f,Hid (nm C.L (i+1)=.error f)->tx C.L i=gZ->Hid (cP C.L (St k) (aW C.L k) u la c i=.error f):=fun f hs ht=>by rw[Hid,cP,if_pos ht,if_neg (by omega),hs.out]
 have bk:Hid _:=ae
 clear ae
 go_enter Tryz.func151,Tryz.ntmps151
 go_wp2_with (go_at_call 101;refine (cD bn ⟨#[115,116,97,116,101]⟩ gZ rfl (by decide)).mono ?_;rintro e w1 h1;rcases h1.cases with ⟨f,l,q,rfl,hq⟩|⟨_,v1,l,rfl,⟨rfl,al⟩,J⟩;(· exact ⟨rfl,by rw[cP,if_neg (aV l).1,<-(aV l).2];exact aR.x ⟨q,rfl,hq⟩ (Y.x (aN4 _)) (by omega) (by simp)⟩))
 have hx1:=ba.carry (J.x (by omega))
 have bq:w1.heap[sb]?=some (.cells (rA [] u la (.slice none 0 0) (.slice none 0 0) (.slice none 0 0) (.pointer none) (.slice none 0 0) (.slice none 0 0)) 223 (0,0)):=by rw[J.block sb (by omega) ac];exact bi
 have ax:=Y.up J
 have bz:=J.size
 have x1:=hx1.a
 obtain ⟨-,-,c2,-⟩:=al.cells
 have hdr:Fr w1.heap.size [] w1 w1.drew:=(Fr.refl _ _ _).drew
 have bo:=al.same hdr
 go_still_tail 5,(by kernel_rfl)
 go_wp2_with (go_at_call 107;refine (kD (C:=C) c 24 hc).mono ?_;rintro e w2 ⟨rfl,Q⟩;have aa:PS C w2 (i+1) c ins 0:=(by rw[Q];exact bo);have I:Fr w1.heap.size [] w1 w2:=(by rw[Q];exact hdr);clear Q;have af:=hx1.carry ((I.wide (X:=[C.rb])).x (B:=w.heap.size+2) (by omega));have y1:=af.a;obtain ⟨-,-,d2,-⟩:=aa.cells;have z2:=aa.frozen 2;have br:=I.size)
 obtain ⟨ai,r⟩:=aa.more
 have y:=af.carry (r.x (B:=w.heap.size+2) (by omega))
 have ap:(w2.setCell ⟨C.rb,2,none⟩ (.int .i64 ((c:Int)+1))).heap[sb]?=some (.cells (rA [] u la (.slice none 0 0) (.slice none 0 0) (.slice none 0 0) (.pointer none) (.slice none 0 0) (.slice none 0 0)) 223 (0,0)):=by rw[r.block sb (by omega) ac,I.block sb (by omega) (by simp)];exact bq
 have U:=(ax.up I.wide).up r
 have az:=r.size
 clear d2 z2 y1 x1 c2
 generalize (w2.setCell ⟨C.rb,2,none⟩ (.int .i64 ((c:Int)+1)))=w3 at ai r y ap U az ⊢
 have ag:Fr w3.heap.size [] w3 w3.drew:=(Fr.refl _ _ _).drew
 have ak:=ai.same ag
 have a3:=y.a
 have b3:=y.b
 go_region_law
  (go_simp
   go_at_call 102
   refine (eZ ak).mono ?_
   rintro e w4 h4
   rcases h4.cases with ⟨f,D,q,rfl,hq⟩|⟨s4,v4,D,rfl,⟨rfl,ay⟩,bj⟩
   ·exact ⟨rfl,by rw[(HE _ D (bJ l)).out];exact aR.x ⟨q,rfl,hq⟩ ((U.x (aN4 _)).drew) (by (show w.heap.size≤w3.heap.size);omega) (by simp)⟩
   rw[sv]
   have j:=ag.wide.up bj
   have Z:=y.carry (j.x (B:=w.heap.size+2) (by omega))
   have a4:=Z.a
   have b4:=Z.b
   have ao:w4.heap[sb]?=some (.cells (rA [] u la (.slice none 0 0) (.slice none 0 0) (.slice none 0 0) (.pointer none) (.slice none 0 0) (.slice none 0 0)) 223 (0,0)):=by rw[j.block sb (by omega) ac];exact ap
   obtain ⟨s0,bu⟩:=lU ao 0 (.string ⟨#[]⟩) rfl
   have ca:=j.size
   have bc:=ay.put aj 0 (.string ⟨s4.toArray⟩)
   have bg:(w4.setCell ⟨sb,0,none⟩ (.string ⟨s4.toArray⟩)).heap[sb]?=some (.cells (rA s4 u la (.slice none 0 0) (.slice none 0 0) (.slice none 0 0) (.pointer none) (.slice none 0 0) (.slice none 0 0)) 223 (0,0)):=heap_setCell_same w4 sb 0 _ 223 _ ao
   have O:=((U.up j).x (sb:=sb) (aN4 _)).setCell (p:=⟨sb,0,none⟩) (.inr (by simp)) (.string ⟨s4.toArray⟩)
   have ab:=Z.carry (((Fr.refl (w.heap.size+2) [C.rb,sb] w4)).setCell (p:=⟨sb,0,none⟩) (.inr (by simp)) (.string ⟨s4.toArray⟩))
   have a5:=ab.a
   have b5:=ab.b)
 all_goals
  go_wp2_with (first
   | (go_at_call 109;refine (cN bc ⟨#[59]⟩ bk.out).mono ?_;rintro e w6 ⟨rfl,av,n⟩;have am:=n.size;have ah:=ab.carry ((n.wide (X:=[C.rb])).x (B:=w.heap.size+2) (by simp;omega));have q1:=ah.a;have bh:X9 k (w.heap.size+2) sb w6 ⟨s4,u,la,[],[],[],.nil,[],[]⟩:=⟨_,_,_,_,_,_,_,_,_,_,_,SU.start (by rw[n.block sb (by simp;omega) (by simp)];exact bg)⟩;have au:Db C (w.heap.size+2) sb w6:=⟨by omega,by omega,aj,by simp at am;omega⟩)
   | (go_at_call 103;refine (Co av au bh ⟨by simp,by simp,by simp,by simp,by simp⟩ hR hk ah).mono ?_;rintro e w7 h7;rcases h7.cases with ⟨f,ad,q,rfl,hq⟩|⟨x7,v7,ad,rfl,⟨rfl,bm,be⟩,aw⟩;(· exact ⟨rfl,by rw[(HO _ D (bJ l)).out,ad.out];obtain ⟨q1,q2,q3⟩:=hq;exact ⟨q,rfl,q1,by (simp at am;have:=O.size;simp at this;omega),(O.trans ((n.wide (X:=[C.rb])).x (by simp;omega))).trans (q3.mono (by omega) (fun _ hx _=>hx))⟩⟩)))
  go_end0
  rw[(HO _ D (bJ l)).out,ad.out]
  exact ⟨_,rfl,⟨rfl,bm,be⟩,(O.trans ((n.wide (X:=[C.rb])).x (by simp;omega))).trans (aw.mono (by omega) (fun _ hx _=>hx))⟩
theorem Kg {C:dV}{k sb ins i c:Nat}{w:World}{n la:Bool}(h:PS C w i c ins 0) (l:C.rb<sb) (j:w.heap[sb]?=some (.cells (rA [] n la (.slice none 0 0) (.slice none 0 0) (.slice none 0 0) (.pointer none) (.slice none 0 0) (.slice none 0 0)) 223 (0,0))) (s:Region C k) (r:ins+k=6):Calls Tryz.prog 151 #[.pointer (some ⟨C.rb,0,none⟩),.pointer (some ⟨sb,0,none⟩)] w (lS w.heap.size [C.rb,sb] (Uy C k (w.heap.size+2) sb ins) w (cP C.L (St k) (aW C.L k) n la c i)):=by
 by_cases hc:24≤c
 ·exact Dq h l j hc
 ·by_cases hse:tx C.L (i+2)=fE
  ·exact Dp h l j (by omega) hse
  ·exact m9 h l j (by omega) hse s r
end
section
open Go.RowKit Px
theorem Fr.stays {C:dV}{w w':World}{b:Nat}{o:Obj}(c:Fr w.heap.size [C.rb] w w') (hb:w.heap[b]?=some o) (h:C.rb<b):w'.heap[b]?=some o:=by
 rw[c.block b (aB hb) (by simp;omega)];exact hb
theorem Tryz.sizeState:(Tryz.prog.info? 223).map (·.size)=some 9:=by kernel_rfl
theorem aD5 {W:World}{g:Nat}{fc:Array Value}(hsz:fc.size=9) (hg:W.heap[g]?=some (.cells fc 223 (0,0))):(loadVar 223 ⟨g,0,none⟩).run Tryz.prog W=.ok (.agg fc) W:=
 run_loadVar_row (P:=Tryz.prog) W g 223 223 fc (0,0) _ hg Tryz.underlying223 rfl (by rw[hsz];exact Tryz.sizeState)
theorem Tryz.infoState:(Tryz.prog.info? 223).map (fun i=>(i.zero,i.size,i.bytes))=some (some (.agg #[.string ⟨#[]⟩,.bool false,.bool false,.slice none 0 0,.slice none 0 0,.slice none 0 0,.pointer none,.slice none 0 0,.slice none 0 0]),9,152):=by kernel_rfl
structure pG (k B:Nat) (w:World) (l:List (cF (St k))) (v:Value) (xs:List Value):Prop where
 own:w.ownsRow B 223 9 v l.length xs
 rows:Rows (Da (kE B v) w (aM (kE B v) w k)) l xs
theorem pG.done {k B:Nat}{w:World}{l:List (cF (St k))}{v:Value}{xs:List Value}(h:pG k B w l v xs):aM (Ge B) w (k+1) l v:=
 ⟨xs,⟨qN h.own,fun g hg=>(h.own.lt g hg).1⟩,h.rows.map (Da.carry nF (aM.carry nF k))⟩
theorem pG.carry {C:dV}{k B:Nat}{w w':World}{l:List (cF (St k))}{v:Value}{xs:List Value}(h:pG k B w l v xs) (hB:C.rb<B) (hf:Fr w.heap.size [C.rb] w w'):pG k B w' l v xs:=
 ⟨qM h.own hB hf,h.rows.map (Da.carry (tJ hB hf) (aM.carry (tJ hB hf) k))⟩
theorem Z9 {C:dV}{k B:Nat}{w wr w5 w6:World}{l:List (cF (St k))}{v c:Value}{xs cs:List Value}{s:cF (St k)}{o:Obj}(hB:C.rb<B) (u:B≤wr.heap.size) (h:pG k B wr l v xs) (y:Fr wr.heap.size [C.rb] wr w5) (U:Fr B [C.rb] w wr) (Z:Da (Ge wr.heap.size) w5 (aM (Ge wr.heap.size) w5 k) s cs)
    (j:w6.ownsRow B 223 9 c (l.length+1) (xs++cs)) (n:(w5.alloc o).grownBy w6 v.ownBlock) (r:c.ownBlock=v.ownBlock\/c.ownBlock=some (w5.alloc o).heap.size) :
    pG k B w6 (l++[s]) c (xs++cs)/\Fr B [C.rb] w w6:=by
 have D:=y.size
 have Q:∀A:Nat->Prop,bB A A w5 (w5.alloc o):=fun A b Y hb=>⟨Y,Below.heap_alloc _ _ _ hb⟩
 have J:bB (kE B v) (kE B c) wr w6:=sZ ((tJ hB y).trans (Q _) D) (by simp;omega) n r
 have I:∀g,v.ownBlock=some g->g<wr.heap.size:=fun g n=>(h.own.lt g n).2
 have O:bB (Ge wr.heap.size) (kE B c) w5 w6:=((Bj u I).trans (sZ (Q _) (by simp) n r) (aN4 _))
 refine ⟨⟨by rw[aO6];exact j,(h.rows.map (Da.carry J (aM.carry J k))).append (Rows.one (Da.carry O (aM.carry O k) _ _ Z))⟩,?_⟩
 exact ((U.up' y u).alloc (by omega) o).grown n (by simp;omega) (fun k X=>.inl (h.own.lt k X).1)
theorem qH.shape {A:Nat->Prop}{w:World}{l:List Wy}{v:Value}(h:qH A w l v):∃ao n cap,v=.slice ao n cap:=by
 obtain ⟨j,c,_⟩:=h
 obtain ⟨ao,cap,rfl⟩:=aP c.1
 exact ⟨ao,_,cap,rfl⟩
theorem gP.shape {ρ:Type}{A:Nat->Prop}{w:World}{I:List ρ->Value->Prop}{l:List (List ρ)}{v:Value}(h:gP A w I l v):∃ao n cap,v=.slice ao n cap:=by
 obtain ⟨j,c,_⟩:=h
 obtain ⟨ao,cap,rfl⟩:=aP c.1
 exact ⟨ao,_,cap,rfl⟩
theorem Da.shapes {ρ:Type}{A:Nat->Prop}{w:World}{I:List ρ->Value->Prop}{s:cF ρ}{e d l p y r:Value}(h:Da A w I s (rA s.name s.first s.last e d l p y r).toList) :
    (∃a n c,e=.slice a n c)/\(∃a n c,d=.slice a n c)/\(∃a n c,l=.slice a n c)/\(∃u,p=.pointer u)/\(∃a n c,y=.slice a n c)/\(∃a n c,r=.slice a n c):=by
 obtain ⟨e',d',Y,Z,y',X,j,O,D,U,J,Q,k⟩:=h
 simp at j
 obtain ⟨rfl,rfl,rfl,rfl,rfl,rfl⟩:=j
 exact ⟨O.shape,D.shape,U.shape,J.ptr,Q.shape,k.shape⟩
end
end Go.Proofs.YthieaobjdpfcoaaGreatDoor
