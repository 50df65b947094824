import Derived.Test.YtcdbhoknhnimcaaGreatDoorTPpart
import Derived.Test.YtcdbhoknhnimcaaGreatDoorTPpart2
import Derived.StillTailTactics
set_option maxRecDepth 100000
set_option maxHeartbeats 8000000
namespace Go.Proofs.YtcdbhoknhnimcaaGreatDoor
section
open Go.RowKit Px
theorem vL {L:List Lx.fK}{i m:Nat}(h:oH L i=.ok m):i<m:=by
 rw[oH] at h
 split at h
 ·injection h with h;omega
 ·exact absurd h (by simp)
theorem pA (L:List Lx.fK) (k:bB) (i:Nat):i≤jU L k i:=by unfold jU;split<;>omega
theorem Ui {L:List Lx.fK}{ρ:Type}{reg:Nat->Nat->Except F (List ρ×Nat×Nat)}(hr:∀c i l c' j,reg c i=.ok (l,c',j)->i<j) {s s':cC ρ}{c i c' j:Nat}(h:Px.eA L ρ reg s c i=.ok (some (s',c',j))):i<j:=by
 rw[Px.eA] at h
 split at h
 ·split at h
  ·exact absurd h (by simp)
  ·rename_i hy
   have:=Ma hy
   injection h with h;injection h with h;injection h with _ h;injection h with _ h;omega
 ·split at h
  ·split at h
   ·exact absurd h (by simp)
   ·rename_i hy
    have:=hr _ _ _ _ _ hy
    injection h with h;injection h with h;injection h with _ h;injection h with _ h;omega
  ·split at h
   ·split at h
    ·exact absurd h (by simp)
    ·rename_i hy
     have h1:=(kO _ _ _ _ _ hy).1
     simp at h1
     split at h
     ·exact absurd h (by simp)
     ·rename_i hm
      have:=vL hm
      injection h with h;injection h with h;injection h with _ h;injection h with _ h;omega
   ·split at h
    ·split at h
     ·exact absurd h (by simp)
     ·rename_i hy
      have h1:=(kO _ _ _ _ _ hy).1
      simp at h1
      split at h
      ·exact absurd h (by simp)
      ·rename_i hm
       have:=vL hm
       injection h with h;injection h with h;injection h with _ h;injection h with _ h;omega
    ·split at h
     ·split at h
      ·exact absurd h (by simp)
      ·rename_i hy
       have h1:=(kO _ _ _ _ _ hy).1
       simp at h1
       split at h
       ·exact absurd h (by simp)
       ·rename_i hm
        have:=vL hm
        injection h with h;injection h with h;injection h with _ h;injection h with _ h;omega
     ·split at h
      ·split at h
       ·split at h
        ·exact absurd h (by simp)
        ·rename_i hy
         have h1:=qB hy
         split at h
         ·exact absurd h (by simp)
         ·rename_i hm
          have:=vL hm
          injection h with h;injection h with h;injection h with _ h;injection h with _ h;omega
       ·exact absurd h (by simp)
      ·exact absurd h (by simp)
theorem Nm {L:List Lx.fK}{ρ:Type}{reg:Nat->Nat->Except F (List ρ×Nat×Nat)}(hr:∀c i l c' j,reg c i=.ok (l,c',j)->i<j):∀(f:Nat) (s:cC ρ) (c i:Nat) (s':cC ρ) (c' j:Nat),parts L ρ reg f s c i=.ok (s',c',j)->i≤j:=by
 intro f
 induction f with
 | zero=>intro s c i s' c' j h;rw[parts] at h;injection h with h;injection h with _ h;injection h with _ h;omega
 | succ f ih=>
  intro s c i s' c' j h
  rw[parts] at h
  split at h
  ·exact absurd h (by simp)
  ·split at h
   ·injection h with h;injection h with _ h;injection h with _ h;omega
   ·exact absurd h (by simp)
  ·rename_i hp
   have h1:=Ui hr hp
   have h2:=ih _ _ _ _ _ _ h
   omega
theorem Q5 {L:List Lx.fK}{ρ:Type}{reg:Nat->Nat->Except F (List ρ×Nat×Nat)}(hr:∀c i l c' j,reg c i=.ok (l,c',j)->i<j) {fi la:Bool}{c i c' j:Nat}{s:cC ρ}(h:cJ L ρ reg fi la c i=.ok (s,c',j)):i<j:=by
 rw[cJ] at h
 split at h
 ·split at h
  ·exact absurd h (by simp)
  ·split at h
   ·exact absurd h (by simp)
   ·split at h
    ·injection h with h;injection h with _ h;injection h with _ h;omega
    ·split at h
     ·have:=Nm hr _ _ _ _ _ _ _ h;omega
     ·exact absurd h (by simp)
 ·exact absurd h (by simp)
theorem Ht {L:List Lx.fK}{ρ:Type}{reg:Nat->Nat->Except F (List ρ×Nat×Nat)}(hr:∀c i l c' j,reg c i=.ok (l,c',j)->i<j):∀(f:Nat) (l:List (cC ρ)) (c i:Nat) (l':List (cC ρ)) (c' j:Nat),states L ρ reg f l c i=.ok (l',c',j)->i≤j:=by
 intro f
 induction f with
 | zero=>intro l c i l' c' j h;rw[states] at h;injection h with h;injection h with _ h;injection h with _ h;omega
 | succ f ih=>
  intro l c i l' c' j h
  rw[states] at h
  split at h
  ·split at h
   ·exact absurd h (by simp)
   ·rename_i hs
    have h1:=Q5 hr hs
    have h2:=ih _ _ _ _ _ _ h
    have h3:=pA L dO i
    have h4:=pA L gX (jU L dO i)
    omega
  ·split at h
   ·injection h with h;injection h with _ h;injection h with _ h;omega
   ·exact absurd h (by simp)
theorem tL {L:List Lx.fK}:∀(k c i:Nat) (l:List (St k)) (c' j:Nat),aU L k c i=.ok (l,c',j)->i<j:=by
 intro k
 induction k with
 | zero=>intro c i l c' j h;rw[aU] at h;exact absurd h (by simp)
 | succ k ih=>
  intro c i l c' j h
  have h':(if tx L i=eT then states L (St k) (aU L k) L.length [] c (i+1) else .error (3,pl L i))=.ok (l,c',j):=h
  by_cases ho:tx L i=eT
  ·rw[if_pos ho] at h'
   have:=Ht ih _ _ _ _ _ _ _ h';omega
  ·rw[if_neg ho] at h'
   exact absurd h' (by simp)
end
section
open Go.RowKit Px
theorem Lb {C:dT}{w:World}{i st ins:Nat}{c1 c2:Value}(h:PS C w i st ins 0) (R:Ending->World->Prop) (Inv:Nat->World->Prop) (Fin:World->Prop) (g0:Nat)
    (herr:tx C.L i≠eT->∀e w',aP C w (3,pl C.L i) e w'->R e w')
    (hstart:tx C.L i=eT->∀w1,PS C w1 (i+1) st ins 0->Fr w.heap.size [C.rb] w w1->Inv g0 w1)
    (hround:∀g w1,Inv g w1->Calls Tryz.prog 223 #[c1,c2] w1 fun e w2=>(e=.returned (.bool true)/\∃g',g'<g/\Inv g' w2)\/(e=.returned (.bool false)/\Fin w2)\/(∃ch,e=.panicked ch/\R e w2))
    (hfin:∀w2,Fin w2->∃j st',PS C w2 j st' ins 0/\(tx C.L j≠jD->∀e w3,aP C w2 (3,pl C.L j) e w3->R e w3)/\(tx C.L j=jD->∀w3,PS C w3 (j+1) st' ins 0->Fr w2.heap.size [C.rb] w2 w3->R (.returned (.tuple #[])) w3)) :
    Calls Tryz.prog 134 #[.pointer (some ⟨C.rb,0,none⟩),.func (.func 223) #[] #[c1,c2]] w R:=by
 have HE:Hid _:=herr
 have HS:Hid _:=hstart
 have HR:Hid _:=hround
 have HF:Hid _:=hfin
 clear herr hstart hround hfin
 go_enter Tryz.func134,Tryz.ntmps134
 go_wp2_with (go_at_call 132;refine (bT h ⟨#[123]⟩ eT rfl (by decide)).mono ?_;rintro e w1 h1;rcases h1.cases with ⟨f,hr1,q,rfl,hq⟩|⟨_,v1,hr1,rfl,⟨rfl,hp1⟩,hf1⟩;(· exact ⟨rfl,HE.out (aR hr1).1 _ _ (by rw[<-(aR hr1).2];exact ⟨q,rfl,hq⟩)⟩))
 have hI:Hid _:=HS.out (bF hr1) w1 hp1 hf1
 go_loopg [] g0 (fun g wr=>Hid (Inv g wr))
 case atStart=>exact hI
 case round=>
  go_wp2_with fail
  refine (HR.out _ _ hrel.out).mono ?_
  rintro e w2 (⟨rfl,g',hg',hi'⟩|⟨rfl,hfn⟩|⟨ch,rfl,hR⟩)
  ·go_wp2_with fail
   go_roundg g'
   case measure=>exact hg'
   case rel=>exact hi'
  ·obtain ⟨j,st',hp2,hb1,hb2⟩:=HF.out w2 hfn
   have HB1:Hid _:=hb1
   have HB2:Hid _:=hb2
   clear hb1 hb2
   go_wp2_with (go_at_call 132;refine (bT hp2 ⟨#[125]⟩ jD rfl (by decide)).mono ?_;rintro e w3 h3;rcases h3.cases with ⟨f,hr3,q,rfl,hq⟩|⟨_,v3,hr3,rfl,⟨rfl,hp3⟩,hf3⟩;(· exact ⟨rfl,HB1.out (aR hr3).1 _ _ (by rw[<-(aR hr3).2];exact ⟨q,rfl,hq⟩)⟩))
   go_end0
   exact HB2.out (bF hr3) w3 hp3 hf3
  ·exact ⟨rfl,hR⟩
end
section
open Go.RowKit Px
theorem lE.cases {B:Nat}{X:List Nat}{α:Type}{ok:α->Value->World->Prop}{w:World}{r:Except F α}{e:Ending}{w':World}(h:lE B X ok w r e w'):(∃f,Hid (r=.error f)/\iN B X w f e w')\/(∃a v,Hid (r=.ok a)/\e=.returned v/\ok a v w'/\Fr B X w w'):=by
 cases r with
 | error f=>exact .inl ⟨f,rfl,h⟩
 | ok a=>obtain ⟨v,h1,h2,h3⟩:=h;exact .inr ⟨a,v,rfl,h1,h2,h3⟩
theorem iN.up {B:Nat}{X:List Nat}{w w1 w':World}{f:F}{e:Ending}(h:iN B X w1 f e w') (hf:Fr B X w w1):iN B X w f e w':=by
 obtain ⟨q,h1,h2,h3,h4⟩:=h
 exact ⟨q,h1,h2,Nat.le_trans hf.size h3,hf.trans h4⟩
structure uZ (C:dT) (B sb ba bb:Nat) (w:World):Prop where
 a:w.cell? ⟨ba,0,none⟩=some (.pointer (some ⟨C.rb,0,none⟩))
 b:w.cell? ⟨bb,0,none⟩=some (.pointer (some ⟨sb,0,none⟩))
 la:ba<B
 lb:bb<B
 na:ba∉[C.rb,sb]
 nb:bb∉[C.rb,sb]
theorem uZ.carry {C:dT}{B sb ba bb:Nat}{w w':World}(h:uZ C B sb ba bb w) (hf:Fr B [C.rb,sb] w w'):uZ C B sb ba bb w':=
 ⟨by rw[hf.cell (p:=⟨ba,0,none⟩) h.la h.na];exact h.a,by rw[hf.cell (p:=⟨bb,0,none⟩) h.lb h.nb];exact h.b,h.la,h.lb,h.na,h.nb⟩
theorem Bp {C:dT}{k B sb ins i c ba bb:Nat}{w:World}{s:cC (St k)}(h:PS C w i c ins 0) (hE:Ay C B sb w) (hS:J8 k B sb w s) (hb:Bd i s) (hR:Region C k) (hk:ins+k=6) (hx:uZ C B sb ba bb w) :
    Calls Tryz.prog 223 #[.pointer (some ⟨ba,0,none⟩),.pointer (some ⟨bb,0,none⟩)] w (lE B [C.rb,sb] (mH C k B sb ins i c s) w (Px.eA C.L (St k) (aU C.L k) s c i)):=by
 have x1:=hx.a
 have x2:=hx.b
 have hp:=Np h hE hS hb hR hk (tL k)
 go_enter Tryz.func223,Tryz.ntmps223
 go_wp2_with (go_at_call 224;refine hp.mono ?_;rintro e w1 h1;rcases h1.cases with ⟨f,hr,q,rfl,hq⟩|⟨a,v,hr,rfl,hv,hf⟩;(· exact ⟨rfl,by rw[hr.out];exact ⟨q,rfl,hq⟩⟩))
 go_ret
 rw[hr.out]
 exact ⟨v,rfl,hv,hf⟩
def Sj (C:dT) (k B sb ins:Nat) (x:cC (St k)×Nat×Nat) (v:Value) (w':World):Prop:=v=.tuple #[]/\PS C w' x.2.2 x.2.1 ins 0/\J8 k B sb w' x.1
theorem Ay.carry {C:dT}{B sb:Nat}{w w':World}(h:Ay C B sb w) (hs:w.heap.size≤w'.heap.size):Ay C B sb w':=⟨h.hrb,h.hsb,h.hne,Nat.le_trans h.hB hs⟩
theorem Ak {C:dT}{k B sb ins i c ba bb:Nat}{w:World}{s:cC (St k)}(h:PS C w i c ins 0) (hE:Ay C B sb w) (hS:J8 k B sb w s) (hb:Bd i s) (hR:Region C k) (hk:ins+k=6) (hx:uZ C B sb ba bb w) :
    Calls Tryz.prog 134 #[.pointer (some ⟨C.rb,0,none⟩),.func (.func 223) #[] #[.pointer (some ⟨ba,0,none⟩),.pointer (some ⟨bb,0,none⟩)]] w
     (lE B [C.rb,sb] (Sj C k B sb ins) w (if tx C.L i=eT then parts C.L (St k) (aU C.L k) C.L.length s c (i+1) else .error (3,pl C.L i))):=by
 obtain ⟨RES,hRES⟩:∃RES,RES=(if tx C.L i=eT then parts C.L (St k) (aU C.L k) C.L.length s c (i+1) else .error (3,pl C.L i)):=⟨_,rfl⟩
 rw[<-hRES]
 have hX:∀x∈[C.rb],x<B:=by have:=hE.hrb;simp;omega
 have hsn:sb∉[C.rb]:=by have:=hE.hne;simp;omega
 have carS:∀{w1 w2:World}{s1:cC (St k)},J8 k B sb w1 s1->Fr w1.heap.size [C.rb] w1 w2->J8 k B sb w2 s1:=by
  rintro w1 w2 s1 ⟨e,d,l,p,y,r,xe,xd,xl,xy,xr,hs⟩ hf
  exact ⟨e,d,l,p,y,r,xe,xd,xl,xy,xr,hs.carry hX hsn hf⟩
 refine Lb h _ (fun g w1=>∃(s1:cC (St k)) (c1 j:Nat),RES=parts C.L (St k) (aU C.L k) g s1 c1 j/\C.L.length≤g+j/\Bd j s1/\PS C w1 j c1 ins 0/\J8 k B sb w1 s1/\Fr B [C.rb,sb] w w1)
  (fun w2=>∃(s1:cC (St k)) (c1 j:Nat),RES=(if tx C.L j=jD then .ok (s1,c1,j+1) else .error (3,pl C.L j))/\PS C w2 j c1 ins 0/\J8 k B sb w2 s1/\Fr B [C.rb,sb] w w2) C.L.length ?_ ?_ ?_ ?_
 ·intro hn e w' ht
  rw[hRES,if_neg hn]
  exact ht.x (Fr.refl _ _ _) hE.hB (by simp)
 ·intro ho w1 hp1 hf1
  refine ⟨s,c,i+1,by rw[hRES,if_pos ho],by omega,⟨by have:=hb.e;omega,by have:=hb.d;omega,by have:=hb.l;omega,by have:=hb.y;omega,by have:=hb.r;omega⟩,hp1,carS hS hf1,hf1.x hE.hB⟩
 ·rintro g w1 ⟨s1,c1,j,hr1,hg,hb1,hp1,hS1,hf1⟩
  obtain ⟨g',rfl⟩:∃g',g=g'+1:=⟨g-1,by have:=hp1.lt;omega⟩
  refine (Bp hp1 (hE.carry hf1.size) hS1 hb1 hR hk (hx.carry hf1)).mono ?_
  rintro e w2 h2
  rcases h2.cases with ⟨f,hr2,ht⟩|⟨o,v,hr2,rfl,hv,hf2⟩
  ·refine .inr (.inr ?_)
   obtain ⟨q,rfl,hq⟩:=ht
   refine ⟨_,rfl,?_⟩
   rw[hr1,parts,hr2.out]
   exact iN.up ⟨q,rfl,hq⟩ hf1
  ·cases o with
   | none=>
    obtain ⟨rfl,hp2,hS2⟩:=hv
    exact .inr (.inl ⟨rfl,s1,c1,j,by rw[hr1,parts,hr2.out],hp2,hS2,hf1.trans hf2⟩)
   | some x=>
    obtain ⟨s2,c2,j2⟩:=x
    obtain ⟨rfl,hlt,hb2,hp2,hS2⟩:=hv
    exact .inl ⟨rfl,g',by omega,s2,c2,j2,by rw[hr1,parts,hr2.out],by omega,hb2,hp2,hS2,hf1.trans hf2⟩
 ·rintro w2 ⟨s1,c1,j,hr1,hp1,hS1,hf1⟩
  refine ⟨j,c1,hp1,fun hn e w3 ht=>?_,fun ho w3 hp3 hf3=>?_⟩
  ·rw[hr1,if_neg hn]
   exact ht.x hf1 (Nat.le_trans hE.hB hf1.size) (by simp)
  ·rw[hr1,if_pos ho]
   exact ⟨_,rfl,⟨rfl,hp3,carS hS1 hf3⟩,hf1.trans (hf3.x (Nat.le_trans hE.hB hf1.size))⟩
theorem SU.start {k B sb:Nat}{w:World}{nm:bB}{fi la:Bool}(h:w.heap[sb]?=some (.cells (qG nm fi la (.slice none 0 0) (.slice none 0 0) (.slice none 0 0) (.pointer none) (.slice none 0 0) (.slice none 0 0)) 256 (0,0))) :
    SU k B sb w ⟨nm,fi,la,[],[],[],.nil,[],[]⟩ (.slice none 0 0) (.slice none 0 0) (.slice none 0 0) (.pointer none) (.slice none 0 0) (.slice none 0 0) [] [] [] [] []:=by
 refine ⟨h,⟨fun x hx=>?_,?_,fun x hx=>?_⟩⟩
 ·simp only[aW,List.mem_cons,List.not_mem_nil,or_false] at hx
  rcases hx with rfl|rfl|rfl|rfl|rfl|rfl<;>exact World.ownsRow_nil _ _ _ _
 ·simp[aW,cA,jY,iF,dU,Value.ownBlock]
 ·simp only[aW,List.mem_cons,List.not_mem_nil,or_false] at hx
  rcases hx with rfl|rfl|rfl|rfl|rfl|rfl<;>rfl
end
section
open Go.RowKit Px
theorem Bo {C:dT}{k sb ins i c:Nat}{w:World}{fi la:Bool}(h:PS C w i c ins 0) (hsb:C.rb<sb) (hs0:w.heap[sb]?=some (.cells (qG [] fi la (.slice none 0 0) (.slice none 0 0) (.slice none 0 0) (.pointer none) (.slice none 0 0) (.slice none 0 0)) 256 (0,0))) (hc:24≤c):Calls Tryz.prog 192 #[.pointer (some ⟨C.rb,0,none⟩),.pointer (some ⟨sb,0,none⟩)] w (lE w.heap.size [C.rb,sb] (Sj C k (w.heap.size+2) sb ins) w (cJ C.L (St k) (aU C.L k) fi la c i)):=by
 have hC:=h.lts.1
 have hsl:=aB hs0
 obtain ⟨hpa,hfa⟩:=h.alloc (.cells #[.pointer (some ⟨C.rb,0,none⟩)] 204)
 obtain ⟨hp0,hfb⟩:=hpa.alloc (.cells #[.pointer (some ⟨sb,0,none⟩)] 258)
 have hF0:=hfa.up hfb
 have hz0:((w.alloc (.cells #[.pointer (some ⟨C.rb,0,none⟩)] 204)).alloc (.cells #[.pointer (some ⟨sb,0,none⟩)] 258)).heap.size=w.heap.size+2:=by simp
 have hx0:uZ C (w.heap.size+2) sb w.heap.size (w.heap.size+1) ((w.alloc (.cells #[.pointer (some ⟨C.rb,0,none⟩)] 204)).alloc (.cells #[.pointer (some ⟨sb,0,none⟩)] 258)):=⟨by simp,by simp,by omega,by omega,by simp;omega,by simp;omega⟩
 have hb0:((w.alloc (.cells #[.pointer (some ⟨C.rb,0,none⟩)] 204)).alloc (.cells #[.pointer (some ⟨sb,0,none⟩)] 258)).heap[sb]?=some (.cells (qG [] fi la (.slice none 0 0) (.slice none 0 0) (.slice none 0 0) (.pointer none) (.slice none 0 0) (.slice none 0 0)) 256 (0,0)):=by rw[hF0.block sb hsl (by simp;omega)];exact hs0
 have hXs:sb∉[C.rb]:=by simp;omega
 go_enter Tryz.func192,Tryz.ntmps192
 go_wp2_with (go_at_call 132;refine (bT hp0 ⟨#[115,116,97,116,101]⟩ gV rfl (by decide)).mono ?_;rintro e w1 h1;rcases h1.cases with ⟨f,hr1,q,rfl,hq⟩|⟨_,v1,hr1,rfl,⟨rfl,hp1⟩,hf1⟩;(· exact ⟨rfl,by rw[cJ,if_neg (aR hr1).1,<-(aR hr1).2];exact aP.x ⟨q,rfl,hq⟩ (hF0.x (Nat.le_refl _)) (by omega) (by simp)⟩))
 have hx1:=hx0.carry (hf1.x (by omega))
 have hb1:w1.heap[sb]?=some (.cells (qG [] fi la (.slice none 0 0) (.slice none 0 0) (.slice none 0 0) (.pointer none) (.slice none 0 0) (.slice none 0 0)) 256 (0,0)):=by rw[hf1.block sb (by omega) hXs];exact hb0
 have hF1:=hF0.up hf1
 have hz1:=hf1.size
 have x1:=hx1.a
 obtain ⟨-,-,c2,-⟩:=hp1.cells
 have hdr:Fr w1.heap.size [] w1 w1.drew:=(Fr.refl _ _ _).drew
 have hpd:=hp1.same hdr
 go_still_tail 5,(by kernel_rfl)
 go_wp2_with (go_at_call 138;refine (qC hpd c 24 hc).mono ?_;rintro e w2 ⟨q,rfl,hq⟩;exact ⟨rfl,by rw[cJ,if_pos (bF hr1),if_pos hc];exact aP.x ⟨q,rfl,hq⟩ ((hF1.x (Nat.le_refl _)).drew) (by (show w.heap.size≤w1.heap.size);omega) (by simp)⟩)
theorem Bn {C:dT}{k sb ins i c:Nat}{w:World}{fi la:Bool}(h:PS C w i c ins 0) (hsb:C.rb<sb) (hs0:w.heap[sb]?=some (.cells (qG [] fi la (.slice none 0 0) (.slice none 0 0) (.slice none 0 0) (.pointer none) (.slice none 0 0) (.slice none 0 0)) 256 (0,0))) (hc:c<24) (hse:tx C.L (i+2)=eS):Calls Tryz.prog 192 #[.pointer (some ⟨C.rb,0,none⟩),.pointer (some ⟨sb,0,none⟩)] w (lE w.heap.size [C.rb,sb] (Sj C k (w.heap.size+2) sb ins) w (cJ C.L (St k) (aU C.L k) fi la c i)):=by
 have hC:=h.lts.1
 have hsl:=aB hs0
 obtain ⟨hpa,hfa⟩:=h.alloc (.cells #[.pointer (some ⟨C.rb,0,none⟩)] 204)
 obtain ⟨hp0,hfb⟩:=hpa.alloc (.cells #[.pointer (some ⟨sb,0,none⟩)] 258)
 have hF0:=hfa.up hfb
 have hz0:((w.alloc (.cells #[.pointer (some ⟨C.rb,0,none⟩)] 204)).alloc (.cells #[.pointer (some ⟨sb,0,none⟩)] 258)).heap.size=w.heap.size+2:=by simp
 have hx0:uZ C (w.heap.size+2) sb w.heap.size (w.heap.size+1) ((w.alloc (.cells #[.pointer (some ⟨C.rb,0,none⟩)] 204)).alloc (.cells #[.pointer (some ⟨sb,0,none⟩)] 258)):=⟨by simp,by simp,by omega,by omega,by simp;omega,by simp;omega⟩
 have hb0:((w.alloc (.cells #[.pointer (some ⟨C.rb,0,none⟩)] 204)).alloc (.cells #[.pointer (some ⟨sb,0,none⟩)] 258)).heap[sb]?=some (.cells (qG [] fi la (.slice none 0 0) (.slice none 0 0) (.slice none 0 0) (.pointer none) (.slice none 0 0) (.slice none 0 0)) 256 (0,0)):=by rw[hF0.block sb hsl (by simp;omega)];exact hs0
 have hXs:sb∉[C.rb]:=by simp;omega
 have hmf:∀(fn:Fn) (first cap:Array Value) (w:World),(Instr.makeFunc fn first cap).run Tryz.prog w=.ok (.func fn first cap) w:=fun _ _ _ _=>rfl
 have HO:∀s,Hid (nm C.L (i+1)=.ok s)->tx C.L i=gV->Hid (cJ C.L (St k) (aU C.L k) fi la c i=.ok (⟨s,fi,la,[],[],[],.nil,[],[]⟩,c+1,i+3)):=fun s hs ht=>by rw[Hid,cJ,if_pos ht,if_neg (by omega),hs.out];simp only;rw[if_pos hse]
 have HE:∀f,Hid (nm C.L (i+1)=.error f)->tx C.L i=gV->Hid (cJ C.L (St k) (aU C.L k) fi la c i=.error f):=fun f hs ht=>by rw[Hid,cJ,if_pos ht,if_neg (by omega),hs.out]
 have HSE:Hid _:=hse
 clear hse
 go_enter Tryz.func192,Tryz.ntmps192
 go_wp2_with (go_at_call 132;refine (bT hp0 ⟨#[115,116,97,116,101]⟩ gV rfl (by decide)).mono ?_;rintro e w1 h1;rcases h1.cases with ⟨f,hr1,q,rfl,hq⟩|⟨_,v1,hr1,rfl,⟨rfl,hp1⟩,hf1⟩;(· exact ⟨rfl,by rw[cJ,if_neg (aR hr1).1,<-(aR hr1).2];exact aP.x ⟨q,rfl,hq⟩ (hF0.x (Nat.le_refl _)) (by omega) (by simp)⟩))
 have hx1:=hx0.carry (hf1.x (by omega))
 have hb1:w1.heap[sb]?=some (.cells (qG [] fi la (.slice none 0 0) (.slice none 0 0) (.slice none 0 0) (.pointer none) (.slice none 0 0) (.slice none 0 0)) 256 (0,0)):=by rw[hf1.block sb (by omega) hXs];exact hb0
 have hF1:=hF0.up hf1
 have hz1:=hf1.size
 have x1:=hx1.a
 obtain ⟨-,-,c2,-⟩:=hp1.cells
 have hdr:Fr w1.heap.size [] w1 w1.drew:=(Fr.refl _ _ _).drew
 have hpd:=hp1.same hdr
 go_still_tail 5,(by kernel_rfl)
 go_wp2_with (go_at_call 138;refine (jS (C:=C) c 24 hc).mono ?_;rintro e w2 ⟨rfl,hw2⟩;have hp2:PS C w2 (i+1) c ins 0:=(by rw[hw2];exact hpd);have hf2:Fr w1.heap.size [] w1 w2:=(by rw[hw2];exact hdr);clear hw2;have hx2:=hx1.carry ((hf2.wide (X:=[C.rb])).x (B:=w.heap.size+2) (by omega));have y1:=hx2.a;obtain ⟨-,-,d2,-⟩:=hp2.cells;have z2:=hp2.frozen 2;have hz2:=hf2.size)
 obtain ⟨hp3,hf3⟩:=hp2.more
 have hx3:=hx2.carry (hf3.x (B:=w.heap.size+2) (by omega))
 have hb3:(w2.setCell ⟨C.rb,2,none⟩ (.int .i64 ((c:Int)+1))).heap[sb]?=some (.cells (qG [] fi la (.slice none 0 0) (.slice none 0 0) (.slice none 0 0) (.pointer none) (.slice none 0 0) (.slice none 0 0)) 256 (0,0)):=by rw[hf3.block sb (by omega) hXs,hf2.block sb (by omega) (by simp)];exact hb1
 have hF3:=(hF1.up hf2.wide).up hf3
 have hz3:=hf3.size
 clear d2 z2 y1 x1 c2
 generalize (w2.setCell ⟨C.rb,2,none⟩ (.int .i64 ((c:Int)+1)))=w3 at hp3 hf3 hx3 hb3 hF3 hz3 ⊢
 have hd3:Fr w3.heap.size [] w3 w3.drew:=(Fr.refl _ _ _).drew
 have hp3d:=hp3.same hd3
 have a3:=hx3.a
 have b3:=hx3.b
 go_region_law
  (go_simp
   go_at_call 133
   refine (eR hp3d).mono ?_
   rintro e w4 h4
   rcases h4.cases with ⟨f,hr4,q,rfl,hq⟩|⟨s4,v4,hr4,rfl,⟨rfl,hp4⟩,hf4⟩
   ·exact ⟨rfl,by rw[(HE _ hr4 (bF hr1)).out];exact aP.x ⟨q,rfl,hq⟩ ((hF3.x (Nat.le_refl _)).drew) (by (show w.heap.size≤w3.heap.size);omega) (by simp)⟩
   rw[sv]
   have hf34:=hd3.wide.up hf4
   have hx4:=hx3.carry (hf34.x (B:=w.heap.size+2) (by omega))
   have a4:=hx4.a
   have b4:=hx4.b
   have hb4:w4.heap[sb]?=some (.cells (qG [] fi la (.slice none 0 0) (.slice none 0 0) (.slice none 0 0) (.pointer none) (.slice none 0 0) (.slice none 0 0)) 256 (0,0)):=by rw[hf34.block sb (by omega) hXs];exact hb3
   obtain ⟨s0,zs0⟩:=lG hb4 0 (.string ⟨#[]⟩) rfl
   have hz4:=hf34.size
   have hp5:=hp4.put hsb 0 (.string ⟨s4.toArray⟩)
   have hb5:(w4.setCell ⟨sb,0,none⟩ (.string ⟨s4.toArray⟩)).heap[sb]?=some (.cells (qG s4 fi la (.slice none 0 0) (.slice none 0 0) (.slice none 0 0) (.pointer none) (.slice none 0 0) (.slice none 0 0)) 256 (0,0)):=heap_setCell_same w4 sb 0 _ 256 _ hb4
   have hF5:=((hF3.up hf34).x (sb:=sb) (Nat.le_refl _)).setCell (p:=⟨sb,0,none⟩) (.inr (by simp)) (.string ⟨s4.toArray⟩)
   have hx5:=hx4.carry (((Fr.refl (w.heap.size+2) [C.rb,sb] w4)).setCell (p:=⟨sb,0,none⟩) (.inr (by simp)) (.string ⟨s4.toArray⟩))
   have a5:=hx5.a
   have b5:=hx5.b)
 all_goals
  go_wp2_with (go_at_call 140;refine (dM hp5 ⟨#[59]⟩ HSE.out (by decide)).mono ?_;rintro e w6 ⟨rfl,hp6,hf6⟩)
  first
   | go_end0
   | refine bodyPost_ret (results_none rfl _ _ _) rfl ?_
  rw[(HO _ hr4 (bF hr1)).out]
  exact ⟨_,rfl,⟨rfl,hp6,⟨_,_,_,_,_,_,_,_,_,_,_,SU.start (by rw[hf6.block sb (by simp;omega) hXs];exact hb5)⟩⟩,hF5.trans (hf6.x (by simp;omega))⟩
theorem Q6 {C:dT}{k sb ins i c:Nat}{w:World}{fi la:Bool}(h:PS C w i c ins 0) (hsb:C.rb<sb) (hs0:w.heap[sb]?=some (.cells (qG [] fi la (.slice none 0 0) (.slice none 0 0) (.slice none 0 0) (.pointer none) (.slice none 0 0) (.slice none 0 0)) 256 (0,0))) (hc:c<24) (hse:tx C.L (i+2)≠eS) (hR:Region C k) (hk:ins+k=6):Calls Tryz.prog 192 #[.pointer (some ⟨C.rb,0,none⟩),.pointer (some ⟨sb,0,none⟩)] w (lE w.heap.size [C.rb,sb] (Sj C k (w.heap.size+2) sb ins) w (cJ C.L (St k) (aU C.L k) fi la c i)):=by
 have hC:=h.lts.1
 have hsl:=aB hs0
 obtain ⟨hpa,hfa⟩:=h.alloc (.cells #[.pointer (some ⟨C.rb,0,none⟩)] 204)
 obtain ⟨hp0,hfb⟩:=hpa.alloc (.cells #[.pointer (some ⟨sb,0,none⟩)] 258)
 have hF0:=hfa.up hfb
 have hz0:((w.alloc (.cells #[.pointer (some ⟨C.rb,0,none⟩)] 204)).alloc (.cells #[.pointer (some ⟨sb,0,none⟩)] 258)).heap.size=w.heap.size+2:=by simp
 have hx0:uZ C (w.heap.size+2) sb w.heap.size (w.heap.size+1) ((w.alloc (.cells #[.pointer (some ⟨C.rb,0,none⟩)] 204)).alloc (.cells #[.pointer (some ⟨sb,0,none⟩)] 258)):=⟨by simp,by simp,by omega,by omega,by simp;omega,by simp;omega⟩
 have hb0:((w.alloc (.cells #[.pointer (some ⟨C.rb,0,none⟩)] 204)).alloc (.cells #[.pointer (some ⟨sb,0,none⟩)] 258)).heap[sb]?=some (.cells (qG [] fi la (.slice none 0 0) (.slice none 0 0) (.slice none 0 0) (.pointer none) (.slice none 0 0) (.slice none 0 0)) 256 (0,0)):=by rw[hF0.block sb hsl (by simp;omega)];exact hs0
 have hXs:sb∉[C.rb]:=by simp;omega
 have hmf:∀(fn:Fn) (first cap:Array Value) (w:World),(Instr.makeFunc fn first cap).run Tryz.prog w=.ok (.func fn first cap) w:=fun _ _ _ _=>rfl
 have HO:∀s,Hid (nm C.L (i+1)=.ok s)->tx C.L i=gV->Hid (cJ C.L (St k) (aU C.L k) fi la c i=if tx C.L (i+2)=eT then parts C.L (St k) (aU C.L k) C.L.length ⟨s,fi,la,[],[],[],.nil,[],[]⟩ (c+1) (i+2+1) else .error (3,pl C.L (i+2))):=fun s hs ht=>by rw[Hid,cJ,if_pos ht,if_neg (by omega),hs.out];simp only;rw[if_neg hse]
 have HE:∀f,Hid (nm C.L (i+1)=.error f)->tx C.L i=gV->Hid (cJ C.L (St k) (aU C.L k) fi la c i=.error f):=fun f hs ht=>by rw[Hid,cJ,if_pos ht,if_neg (by omega),hs.out]
 have HSE:Hid _:=hse
 clear hse
 go_enter Tryz.func192,Tryz.ntmps192
 go_wp2_with (go_at_call 132;refine (bT hp0 ⟨#[115,116,97,116,101]⟩ gV rfl (by decide)).mono ?_;rintro e w1 h1;rcases h1.cases with ⟨f,hr1,q,rfl,hq⟩|⟨_,v1,hr1,rfl,⟨rfl,hp1⟩,hf1⟩;(· exact ⟨rfl,by rw[cJ,if_neg (aR hr1).1,<-(aR hr1).2];exact aP.x ⟨q,rfl,hq⟩ (hF0.x (Nat.le_refl _)) (by omega) (by simp)⟩))
 have hx1:=hx0.carry (hf1.x (by omega))
 have hb1:w1.heap[sb]?=some (.cells (qG [] fi la (.slice none 0 0) (.slice none 0 0) (.slice none 0 0) (.pointer none) (.slice none 0 0) (.slice none 0 0)) 256 (0,0)):=by rw[hf1.block sb (by omega) hXs];exact hb0
 have hF1:=hF0.up hf1
 have hz1:=hf1.size
 have x1:=hx1.a
 obtain ⟨-,-,c2,-⟩:=hp1.cells
 have hdr:Fr w1.heap.size [] w1 w1.drew:=(Fr.refl _ _ _).drew
 have hpd:=hp1.same hdr
 go_still_tail 5,(by kernel_rfl)
 go_wp2_with (go_at_call 138;refine (jS (C:=C) c 24 hc).mono ?_;rintro e w2 ⟨rfl,hw2⟩;have hp2:PS C w2 (i+1) c ins 0:=(by rw[hw2];exact hpd);have hf2:Fr w1.heap.size [] w1 w2:=(by rw[hw2];exact hdr);clear hw2;have hx2:=hx1.carry ((hf2.wide (X:=[C.rb])).x (B:=w.heap.size+2) (by omega));have y1:=hx2.a;obtain ⟨-,-,d2,-⟩:=hp2.cells;have z2:=hp2.frozen 2;have hz2:=hf2.size)
 obtain ⟨hp3,hf3⟩:=hp2.more
 have hx3:=hx2.carry (hf3.x (B:=w.heap.size+2) (by omega))
 have hb3:(w2.setCell ⟨C.rb,2,none⟩ (.int .i64 ((c:Int)+1))).heap[sb]?=some (.cells (qG [] fi la (.slice none 0 0) (.slice none 0 0) (.slice none 0 0) (.pointer none) (.slice none 0 0) (.slice none 0 0)) 256 (0,0)):=by rw[hf3.block sb (by omega) hXs,hf2.block sb (by omega) (by simp)];exact hb1
 have hF3:=(hF1.up hf2.wide).up hf3
 have hz3:=hf3.size
 clear d2 z2 y1 x1 c2
 generalize (w2.setCell ⟨C.rb,2,none⟩ (.int .i64 ((c:Int)+1)))=w3 at hp3 hf3 hx3 hb3 hF3 hz3 ⊢
 have hd3:Fr w3.heap.size [] w3 w3.drew:=(Fr.refl _ _ _).drew
 have hp3d:=hp3.same hd3
 have a3:=hx3.a
 have b3:=hx3.b
 go_region_law
  (go_simp
   go_at_call 133
   refine (eR hp3d).mono ?_
   rintro e w4 h4
   rcases h4.cases with ⟨f,hr4,q,rfl,hq⟩|⟨s4,v4,hr4,rfl,⟨rfl,hp4⟩,hf4⟩
   ·exact ⟨rfl,by rw[(HE _ hr4 (bF hr1)).out];exact aP.x ⟨q,rfl,hq⟩ ((hF3.x (Nat.le_refl _)).drew) (by (show w.heap.size≤w3.heap.size);omega) (by simp)⟩
   rw[sv]
   have hf34:=hd3.wide.up hf4
   have hx4:=hx3.carry (hf34.x (B:=w.heap.size+2) (by omega))
   have a4:=hx4.a
   have b4:=hx4.b
   have hb4:w4.heap[sb]?=some (.cells (qG [] fi la (.slice none 0 0) (.slice none 0 0) (.slice none 0 0) (.pointer none) (.slice none 0 0) (.slice none 0 0)) 256 (0,0)):=by rw[hf34.block sb (by omega) hXs];exact hb3
   obtain ⟨s0,zs0⟩:=lG hb4 0 (.string ⟨#[]⟩) rfl
   have hz4:=hf34.size
   have hp5:=hp4.put hsb 0 (.string ⟨s4.toArray⟩)
   have hb5:(w4.setCell ⟨sb,0,none⟩ (.string ⟨s4.toArray⟩)).heap[sb]?=some (.cells (qG s4 fi la (.slice none 0 0) (.slice none 0 0) (.slice none 0 0) (.pointer none) (.slice none 0 0) (.slice none 0 0)) 256 (0,0)):=heap_setCell_same w4 sb 0 _ 256 _ hb4
   have hF5:=((hF3.up hf34).x (sb:=sb) (Nat.le_refl _)).setCell (p:=⟨sb,0,none⟩) (.inr (by simp)) (.string ⟨s4.toArray⟩)
   have hx5:=hx4.carry (((Fr.refl (w.heap.size+2) [C.rb,sb] w4)).setCell (p:=⟨sb,0,none⟩) (.inr (by simp)) (.string ⟨s4.toArray⟩))
   have a5:=hx5.a
   have b5:=hx5.b)
 all_goals
  go_wp2_with (first
   | (go_at_call 140;refine (cG hp5 ⟨#[59]⟩ HSE.out).mono ?_;rintro e w6 ⟨rfl,hp6,hf6⟩;have hz6:=hf6.size;have hx6:=hx5.carry ((hf6.wide (X:=[C.rb])).x (B:=w.heap.size+2) (by simp;omega));have q1:=hx6.a;have hS6:J8 k (w.heap.size+2) sb w6 ⟨s4,fi,la,[],[],[],.nil,[],[]⟩:=⟨_,_,_,_,_,_,_,_,_,_,_,SU.start (by rw[hf6.block sb (by simp;omega) (by simp)];exact hb5)⟩;have hE6:Ay C (w.heap.size+2) sb w6:=⟨by omega,by omega,hsb,by simp at hz6;omega⟩)
   | (go_at_call 134;refine (Ak hp6 hE6 hS6 ⟨by simp,by simp,by simp,by simp,by simp⟩ hR hk hx6).mono ?_;rintro e w7 h7;rcases h7.cases with ⟨f,hr7,q,rfl,hq⟩|⟨x7,v7,hr7,rfl,⟨rfl,hp7,hS7⟩,hf7⟩;(· exact ⟨rfl,by rw[(HO _ hr4 (bF hr1)).out,hr7.out];obtain ⟨q1,q2,q3⟩:=hq;exact ⟨q,rfl,q1,by (simp at hz6;have:=hF5.size;simp at this;omega),(hF5.trans ((hf6.wide (X:=[C.rb])).x (by simp;omega))).trans (q3.mono (by omega) (fun _ hx _=>hx))⟩⟩)))
  go_end0
  rw[(HO _ hr4 (bF hr1)).out,hr7.out]
  exact ⟨_,rfl,⟨rfl,hp7,hS7⟩,(hF5.trans ((hf6.wide (X:=[C.rb])).x (by simp;omega))).trans (hf7.mono (by omega) (fun _ hx _=>hx))⟩
theorem Hu {C:dT}{k sb ins i c:Nat}{w:World}{fi la:Bool}(h:PS C w i c ins 0) (hsb:C.rb<sb) (hs0:w.heap[sb]?=some (.cells (qG [] fi la (.slice none 0 0) (.slice none 0 0) (.slice none 0 0) (.pointer none) (.slice none 0 0) (.slice none 0 0)) 256 (0,0))) (hR:Region C k) (hk:ins+k=6):Calls Tryz.prog 192 #[.pointer (some ⟨C.rb,0,none⟩),.pointer (some ⟨sb,0,none⟩)] w (lE w.heap.size [C.rb,sb] (Sj C k (w.heap.size+2) sb ins) w (cJ C.L (St k) (aU C.L k) fi la c i)):=by
 by_cases hc:24≤c
 ·exact Bo h hsb hs0 hc
 ·by_cases hse:tx C.L (i+2)=eS
  ·exact Bn h hsb hs0 (by omega) hse
  ·exact Q6 h hsb hs0 (by omega) hse hR hk
end
section
open Go.RowKit Px
theorem Fr.stays {C:dT}{w w':World}{b:Nat}{o:Obj}(hf:Fr w.heap.size [C.rb] w w') (hb:w.heap[b]?=some o) (hn:C.rb<b):w'.heap[b]?=some o:=by
 rw[hf.block b (aB hb) (by simp;omega)];exact hb
theorem Tryz.sizeState:(Tryz.prog.info? 256).map (·.size)=some 9:=by kernel_rfl
theorem Za {W:World}{g:Nat}{fc:Array Value}(hsz:fc.size=9) (hg:W.heap[g]?=some (.cells fc 256 (0,0))):(loadVar 256 ⟨g,0,none⟩).run Tryz.prog W=.ok (.agg fc) W:=
 run_loadVar_row (P:=Tryz.prog) W g 256 256 fc (0,0) _ hg Tryz.underlying256 rfl (by rw[hsz];exact Tryz.sizeState)
theorem Tryz.infoState:(Tryz.prog.info? 256).map (fun i=>(i.zero,i.size,i.bytes))=some (some (.agg #[.string ⟨#[]⟩,.bool false,.bool false,.slice none 0 0,.slice none 0 0,.slice none 0 0,.pointer none,.slice none 0 0,.slice none 0 0]),9,152):=by kernel_rfl
structure oJ (k B:Nat) (w:World) (l:List (cC (St k))) (v:Value) (xs:List Value):Prop where
 own:w.ownsRow B 256 9 v l.length xs
 rows:Rows (Ax (jT B v) w (aL (jT B v) w k)) l xs
theorem oJ.done {k B:Nat}{w:World}{l:List (cC (St k))}{v:Value}{xs:List Value}(h:oJ k B w l v xs):aL (Ge B) w (k+1) l v:=
 ⟨xs,⟨pW h.own,fun g hg=>(h.own.lt g hg).1⟩,h.rows.map (Ax.carry mP (aL.carry mP k))⟩
theorem oJ.carry {C:dT}{k B:Nat}{w w':World}{l:List (cC (St k))}{v:Value}{xs:List Value}(h:oJ k B w l v xs) (hB:C.rb<B) (hf:Fr w.heap.size [C.rb] w w'):oJ k B w' l v xs:=
 ⟨pV h.own hB hf,h.rows.map (Ax.carry (sC hB hf) (aL.carry (sC hB hf) k))⟩
theorem Q4 {C:dT}{k B:Nat}{w wr w5 w6:World}{l:List (cC (St k))}{v v':Value}{xs cs:List Value}{s:cC (St k)}{o:Obj}(hB:C.rb<B) (hBr:B≤wr.heap.size) (h:oJ k B wr l v xs) (hf:Fr wr.heap.size [C.rb] wr w5) (hw:Fr B [C.rb] w wr) (he:Ax (Ge wr.heap.size) w5 (aL (Ge wr.heap.size) w5 k) s cs)
    (hown:w6.ownsRow B 256 9 v' (l.length+1) (xs++cs)) (hg:(w5.alloc o).grownBy w6 v.ownBlock) (hat:v'.ownBlock=v.ownBlock\/v'.ownBlock=some (w5.alloc o).heap.size) :
    oJ k B w6 (l++[s]) v' (xs++cs)/\Fr B [C.rb] w w6:=by
 have hs5:=hf.size
 have kA:∀A:Nat->Prop,aX A A w5 (w5.alloc o):=fun A b ha hb=>⟨ha,Below.heap_alloc _ _ _ hb⟩
 have k1:aX (jT B v) (jT B v') wr w6:=rZ ((sC hB hf).trans (kA _) hs5) (by simp;omega) hg hat
 have hvl:∀g,v.ownBlock=some g->g<wr.heap.size:=fun g hg=>(h.own.lt g hg).2
 have k2:aX (Ge wr.heap.size) (jT B v') w5 w6:=((Y9 hBr hvl).trans (rZ (kA _) (by simp) hg hat) (Nat.le_refl _))
 refine ⟨⟨by rw[List.length_append];exact hown,(h.rows.map (Ax.carry k1 (aL.carry k1 k))).append (Rows.one (Ax.carry k2 (aL.carry k2 k) _ _ he))⟩,?_⟩
 exact ((hw.up' hf hBr).alloc (by omega) o).grown hg (by simp;omega) (fun k hk=>.inl (h.own.lt k hk).1)
theorem pO.shape {A:Nat->Prop}{w:World}{l:List Wy}{v:Value}(h:pO A w l v):∃ao n cap,v=.slice ao n cap:=by
 obtain ⟨xs,hr,_⟩:=h
 obtain ⟨ao,cap,rfl⟩:=aJ hr.1
 exact ⟨ao,_,cap,rfl⟩
theorem gI.shape {ρ:Type}{A:Nat->Prop}{w:World}{I:List ρ->Value->Prop}{l:List (List ρ)}{v:Value}(h:gI A w I l v):∃ao n cap,v=.slice ao n cap:=by
 obtain ⟨xs,hr,_⟩:=h
 obtain ⟨ao,cap,rfl⟩:=aJ hr.1
 exact ⟨ao,_,cap,rfl⟩
theorem Ax.shapes {ρ:Type}{A:Nat->Prop}{w:World}{I:List ρ->Value->Prop}{s:cC ρ}{e d l p y r:Value}(h:Ax A w I s (qG s.name s.first s.last e d l p y r).toList) :
    (∃a n c,e=.slice a n c)/\(∃a n c,d=.slice a n c)/\(∃a n c,l=.slice a n c)/\(∃u,p=.pointer u)/\(∃a n c,y=.slice a n c)/\(∃a n c,r=.slice a n c):=by
 obtain ⟨e',d',l',p',y',r',heq,h1,h2,h3,h4,h5,h6⟩:=h
 simp at heq
 obtain ⟨rfl,rfl,rfl,rfl,rfl,rfl⟩:=heq
 exact ⟨h1.shape,h2.shape,h3.shape,h4.ptr,h5.shape,h6.shape⟩
end
end Go.Proofs.YtcdbhoknhnimcaaGreatDoor
