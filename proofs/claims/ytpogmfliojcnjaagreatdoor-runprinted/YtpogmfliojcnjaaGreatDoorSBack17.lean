import Derived.Test.YtpogmfliojcnjaaGreatDoorSBack15
import Derived.Test.YtpogmfliojcnjaaGreatDoorSLaidU
namespace Go.Proofs.YtpogmfliojcnjaaGreatDoor
section
namespace Px
open Go.Lib Lx
theorem momK_len (w:Str) (l:List Asg):(momK w l).length=if l=[] then 0 else nS l+1:=by
 cases l with
 | nil=>rfl
 | cons a r=>have:=nS_len a r;rw[if_neg (by simp)];simp[momK];omega
theorem momK_app (w:Str) (l m:List Asg):(momK w (l++m)).length≤(momK w l).length+(nS m+1):=by
 rw[momK_len,momK_len,nS_append]
 by_cases h:l=[]
 ·subst h
  rw[List.nil_append,if_pos rfl,show nS []=0 from rfl]
  split<;>omega
 ·rw[if_neg (by simp[h]),if_neg h];omega
section
variable {L:List Tok}{ρ:Type}{reg:Nat->Nat->Except F (List ρ×Nat×Nat)}{S:ρ->Prop}{sk':ρ->List Kt}{g:ρ->Nat}
def DRB (L:List Tok) (S:ρ->Prop) (sk':ρ->List Kt) (g:ρ->Nat) (reg:Nat->Nat->Except F (List ρ×Nat×Nat)):Prop:=
 ∀c i l c' j,reg c i=.ok (l,c',j)->(∀x∈l,S x)/\i<j/\(l.flatMap sk').length+2≤j-i/\j≤L.length/\c'=c+sumW g l/\(c≤24->c'≤24)
def nIn (sk':ρ->List Kt) (s:StF ρ):Nat:=(momK kEntry s.enter).length+(momK kDuring s.during).length+(momK kExit s.leave).length+(restK s.rests).length+(s.ways.flatMap wayK).length+(regK sk' s.regions).length
theorem inK_len (s:StF ρ):(inK (regK sk') s).length=nIn sk' s:=by
 unfold inK nIn
 simp only[List.length_append]
 omega
theorem regK_app (l:List (List ρ)) (r:List ρ):(regK sk' (l++[r])).length=(regK sk' l).length+((r.flatMap sk').length+3):=by
 simp[regK,oneRegK]
theorem ways_app (l:List Wy) (y:Wy):((l++[y]).flatMap wayK).length=(l.flatMap wayK).length+(wayK y).length:=by simp
theorem restK_len (e:E):(restK e).length≤(exprK e 1).length+2:=by
 cases e with
 | nil=>simp[restK]
 | node b o a l r=>simp[restK]
theorem part_b (hL:Wf L) (hn:Wn L) (hr:DRB L S sk' g reg) {s s':StF ρ}{c i c' j:Nat}(h:part L ρ reg s c i=.ok (some (s',c',j))) (hs:SStF S s) :
    SStF S s'/\i<j/\nIn sk' s'≤nIn sk' s+(j-i)/\j≤L.length/\c'+sumW (sumW g) s.regions=c+sumW (sumW g) s'.regions/\(c≤24->c'≤24)/\s'.first=s.first/\s'.last=s.last:=by
 obtain ⟨h0,h1,h2,h3,h4,h5,h6⟩:=hs
 rw[part] at h
 split at h
 ·rename_i k hk
  split at h
  ·exact absurd h (by simp)
  ·rename_i y m hy
   obtain ⟨y1,y2,y3,y4,y5⟩:=way_b hL hn (leadOf_le hk) hy
   injection h with h;injection h with h;injection h with e1 h;injection h with e2 e3
   subst e1;subst e2;subst e3
   refine ⟨⟨h0,h1,h2,h3,h4,fun z hz=>?_,h6⟩,by omega,?_,y5,rfl,id,rfl,rfl⟩
   ·rcases List.mem_append.1 hz with hz|hz
    ·exact h5 z hz
    ·rw[List.mem_singleton.1 hz];exact y1
   ·have:=ways_app s.ways y
    simp only[nIn]
    omega
 ·split at h
  ·split at h
   ·exact absurd h (by simp)
   ·rename_i l c1 m hy
    obtain ⟨q1,q2,q3,q4,q5,q6⟩:=hr _ _ _ _ _ hy
    injection h with h;injection h with h;injection h with e1 h;injection h with e2 e3
    subst e1;subst e2;subst e3
    refine ⟨⟨h0,h1,h2,h3,h4,h5,fun r hr x hx=>?_⟩,by omega,?_,q4,?_,q6,rfl,rfl⟩
    ·rcases List.mem_append.1 hr with hr|hr
     ·exact h6 r hr x hx
     ·rw[List.mem_singleton.1 hr] at hx;exact q1 x hx
    ·have:=regK_app (sk':=sk') s.regions l
     simp only[nIn]
     omega
    ·show c1+_=c+sumW (sumW g) (s.regions++[l])
     rw[sumW_append,sumW_one];omega
  ·split at h
   ·split at h
    ·exact absurd h (by simp)
    ·rename_i l m hy
     obtain ⟨q1,q2,q3⟩:=sets_b hL hn _ _ _ _ _ hy SS_nil
     rw[show nS []=0 from rfl] at q3
     split at h
     ·exact absurd h (by simp)
     ·rename_i m2 hm
      have hm':=semi_w hm
      injection h with h;injection h with h;injection h with e1 h;injection h with e2 e3
      subst e1;subst e2;subst e3
      refine ⟨⟨h0,h1.app q1,h2,h3,h4,h5,h6⟩,by omega,?_,hm'.2,rfl,id,rfl,rfl⟩
      have:=momK_app kEntry s.enter l
      simp only[nIn]
      omega
   ·split at h
    ·split at h
     ·exact absurd h (by simp)
     ·rename_i l m hy
      obtain ⟨q1,q2,q3⟩:=sets_b hL hn _ _ _ _ _ hy SS_nil
      rw[show nS []=0 from rfl] at q3
      split at h
      ·exact absurd h (by simp)
      ·rename_i m2 hm
       have hm':=semi_w hm
       injection h with h;injection h with h;injection h with e1 h;injection h with e2 e3
       subst e1;subst e2;subst e3
       refine ⟨⟨h0,h1,h2.app q1,h3,h4,h5,h6⟩,by omega,?_,hm'.2,rfl,id,rfl,rfl⟩
       have:=momK_app kDuring s.during l
       simp only[nIn]
       omega
    ·split at h
     ·split at h
      ·exact absurd h (by simp)
      ·rename_i l m hy
       obtain ⟨q1,q2,q3⟩:=sets_b hL hn _ _ _ _ _ hy SS_nil
       rw[show nS []=0 from rfl] at q3
       split at h
       ·exact absurd h (by simp)
       ·rename_i m2 hm
        have hm':=semi_w hm
        injection h with h;injection h with h;injection h with e1 h;injection h with e2 e3
        subst e1;subst e2;subst e3
        refine ⟨⟨h0,h1,h2,h3.app q1,h4,h5,h6⟩,by omega,?_,hm'.2,rfl,id,rfl,rfl⟩
        have:=momK_app kExit s.leave l
        simp only[nIn]
        omega
     ·split at h
      ·split at h
       ·rename_i he
        split at h
        ·exact absurd h (by simp)
        ·rename_i e m hy
         obtain ⟨q1,q2,q3,q4⟩:=expr_b hL hn hy
         split at h
         ·exact absurd h (by simp)
         ·rename_i m2 hm
          have hm':=semi_w hm
          injection h with h;injection h with h;injection h with e1 h;injection h with e2 e3
          subst e1;subst e2;subst e3
          refine ⟨⟨h0,h1,h2,h3,.inr ⟨q1,q2⟩,h5,h6⟩,by omega,?_,hm'.2,rfl,id,rfl,rfl⟩
          have:=restK_len e
          simp only[nIn]
          omega
       ·exact absurd h (by simp)
      ·exact absurd h (by simp)
theorem parts_b (hL:Wf L) (hn:Wn L) (hr:DRB L S sk' g reg):∀(n:Nat) (s:StF ρ) (c i:Nat) (s':StF ρ) (c' j:Nat),parts L ρ reg n s c i=.ok (s',c',j)->n≠0->L.length<i+n->SStF S s->i≤L.length->
    SStF S s'/\i<j/\nIn sk' s'+1≤nIn sk' s+(j-i)/\j≤L.length/\c'+sumW (sumW g) s.regions=c+sumW (sumW g) s'.regions/\(c≤24->c'≤24)/\s'.first=s.first/\s'.last=s.last:=by
 intro n
 induction n with
 | zero=>intro s c i s' c' j _ h0;exact absurd rfl h0
 | succ n ih=>
  intro s c i s' c' j h _ hn1 hs hi
  rw[parts] at h
  split at h
  ·exact absurd h (by simp)
  ·split at h
   ·rename_i ht
    have:=tx_lt ht (by simp[kShut])
    injection h with h;injection h with e1 h;injection h with e2 e3
    subst e1;subst e2;subst e3
    exact ⟨hs,by omega,by omega,by omega,rfl,id,rfl,rfl⟩
   ·exact absurd h (by simp)
  ·rename_i s1 c1 m hp
   obtain ⟨p1,p2,p3,p4,p5,p6,p7,p8⟩:=part_b hL hn hr hp hs
   by_cases h0:n=0
   ·omega
   ·obtain ⟨q1,q2,q3,q4,q5,q6,q7,q8⟩:=ih _ _ _ _ _ _ h h0 (by omega) p1 p4
    exact ⟨q1,by omega,by omega,q4,by omega,fun hc=>q6 (p6 hc),q7.trans p7,q8.trans p8⟩
def tailK (sk':ρ->List Kt) (s:StF ρ):Nat:=2+(if inK (regK sk') s=[] then [(3,kSemi)] else (3,kOpen)::(inK (regK sk') s++[(3,kShut)]):List Kt).length
theorem stK_len (s:StF ρ):(stK (regK sk') s).length=(optK s.first kInitial).length+(optK s.last kFinal).length+tailK sk' s:=by
 unfold stK headK tailK
 simp only[List.length_append,List.length_cons,List.length_nil]
 omega
theorem state_b (hL:Wf L) (hn:Wn L) (hr:DRB L S sk' g reg) {fi la:Bool}{c i c' j:Nat}{s:StF ρ}(h:state L ρ reg fi la c i=.ok (s,c',j)) :
    SStF S s/\i<j/\tailK sk' s≤j-i/\j≤L.length/\c'=c+cStF g s/\c'≤24/\s.first=fi/\s.last=la:=by
 rw[state] at h
 split at h
 ·split at h
  ·exact absurd h (by simp)
  ·split at h
   ·exact absurd h (by simp)
   ·rename_i nm' hnm
    have hz:SStF S (⟨nm',fi,la,[],[],[],.nil,[],[]⟩:StF ρ):=⟨nm_name hn hnm,SS_nil,SS_nil,SS_nil,.inl rfl,fun y hy=>absurd hy (by simp),fun r hr=>absurd hr (by simp)⟩
    have hw:nIn sk' (⟨nm',fi,la,[],[],[],.nil,[],[]⟩:StF ρ)=0:=rfl
    split at h
    ·rename_i ht
     have:=tx_lt ht (by simp[kSemi])
     injection h with h;injection h with e1 h;injection h with e2 e3
     subst e1;subst e2;subst e3
     refine ⟨hz,by omega,?_,by omega,rfl,by omega,rfl,rfl⟩
     have e:inK (regK sk') (⟨nm',fi,la,[],[],[],.nil,[],[]⟩:StF ρ)=[]:=rfl
     unfold tailK
     rw[if_pos e]
     simp
    ·split at h
     ·rename_i ht
      have:=tx_lt ht (by simp[kOpen])
      obtain ⟨q1,q2,q3,q4,q5,q6,q7,q8⟩:=parts_b hL hn hr _ _ _ _ _ _ _ h (by omega) (by omega) hz (by omega)
      rw[hw] at q3
      have q5':c'+0=c+1+sumW (sumW g) s.regions:=q5
      refine ⟨q1,by omega,?_,q4,by unfold cStF;omega,q6 (by omega),q7,q8⟩
      have:=inK_len (sk':=sk') s
      unfold tailK
      split
      ·simp;omega
      ·simp only[List.length_cons,List.length_append,List.length_nil];omega
     ·exact absurd h (by simp)
 ·exact absurd h (by simp)
theorem states_b (hL:Wf L) (hn:Wn L) (hr:DRB L S sk' g reg):∀(n:Nat) (l:List (StF ρ)) (c i:Nat) (l':List (StF ρ)) (c' j:Nat),states L ρ reg n l c i=.ok (l',c',j)->n≠0->L.length<i+n->(∀x∈l,SStF S x)->i≤L.length->
    (∀x∈l',SStF S x)/\i<j/\(l'.flatMap (stK (regK sk'))).length+1≤(l.flatMap (stK (regK sk'))).length+(j-i)/\j≤L.length/\c'+sumW (cStF g) l=c+sumW (cStF g) l'/\(c≤24->c'≤24):=by
 intro n
 induction n with
 | zero=>intro l c i l' c' j _ h0;exact absurd rfl h0
 | succ n ih=>
  intro l c i l' c' j h _ hn1 hl hi
  rw[states] at h
  split at h
  ·split at h
   ·exact absurd h (by simp)
   ·rename_i s c1 m hs
    obtain ⟨p1,p2,p3,p4,p5,p6,p7,p8⟩:=state_b hL hn hr hs
    have o1:=opt_b (L:=L) kInitial i
    have o2:=opt_b (L:=L) kFinal (opt L kInitial i)
    have hk:=stK_len (sk':=sk') s
    rw[p7,p8] at hk
    by_cases h0:n=0
    ·omega
    ·obtain ⟨q1,q2,q3,q4,q5,q6⟩:=ih _ _ _ _ _ _ h h0 (by omega) (fun x hx=>(List.mem_append.1 hx).elim (hl x) (fun hx=>by rw[List.mem_singleton.1 hx];exact p1)) p4
     rw[sumW_append,sumW_one] at q5
     have e:((l++[s]).flatMap (stK (regK sk'))).length=(l.flatMap (stK (regK sk'))).length+(stK (regK sk') s).length:=by simp
     rw[e] at q3
     exact ⟨q1,by omega,by omega,q4,by omega,fun _=>q6 p6⟩
  ·split at h
   ·rename_i ht
    have:=tx_lt ht (by simp[kShut])
    injection h with h;injection h with e1 h;injection h with e2 e3
    subst e1;subst e2;subst e3
    exact ⟨hl,by omega,by omega,by omega,rfl,id⟩
   ·exact absurd h (by simp)
theorem part_noreg (hr:∀c i x,reg c i≠.ok x) {s s':StF ρ}{c i c' j:Nat}(h:part L ρ reg s c i=.ok (some (s',c',j))):s'.regions=s.regions:=by
 rw[part] at h
 split at h
 ·split at h
  ·exact absurd h (by simp)
  ·injection h with h;injection h with h;injection h with e1 h;subst e1;rfl
 ·split at h
  ·split at h
   ·exact absurd h (by simp)
   ·rename_i hy;exact absurd hy (hr _ _ _)
  ·split at h
   ·split at h
    ·exact absurd h (by simp)
    ·split at h
     ·exact absurd h (by simp)
     ·injection h with h;injection h with h;injection h with e1 h;subst e1;rfl
   ·split at h
    ·split at h
     ·exact absurd h (by simp)
     ·split at h
      ·exact absurd h (by simp)
      ·injection h with h;injection h with h;injection h with e1 h;subst e1;rfl
    ·split at h
     ·split at h
      ·exact absurd h (by simp)
      ·split at h
       ·exact absurd h (by simp)
       ·injection h with h;injection h with h;injection h with e1 h;subst e1;rfl
     ·split at h
      ·split at h
       ·split at h
        ·exact absurd h (by simp)
        ·split at h
         ·exact absurd h (by simp)
         ·injection h with h;injection h with h;injection h with e1 h;subst e1;rfl
       ·exact absurd h (by simp)
      ·exact absurd h (by simp)
theorem parts_noreg (hr:∀c i x,reg c i≠.ok x):∀(n:Nat) (s:StF ρ) (c i:Nat) (s':StF ρ) (c' j:Nat),parts L ρ reg n s c i=.ok (s',c',j)->s'.regions=s.regions:=by
 intro n
 induction n with
 | zero=>intro s c i s' c' j h;rw[parts] at h;injection h with h;injection h with e1 h;subst e1;rfl
 | succ n ih=>
  intro s c i s' c' j h
  rw[parts] at h
  split at h
  ·exact absurd h (by simp)
  ·split at h
   ·injection h with h;injection h with e1 h;subst e1;rfl
   ·exact absurd h (by simp)
  ·rename_i s1 c1 m hp
   rw[ih _ _ _ _ _ _ h,part_noreg hr hp]
theorem state_noreg (hr:∀c i x,reg c i≠.ok x) {fi la:Bool}{c i c' j:Nat}{s:StF ρ}(h:state L ρ reg fi la c i=.ok (s,c',j)):s.regions=[]:=by
 rw[state] at h
 split at h
 ·split at h
  ·exact absurd h (by simp)
  ·split at h
   ·exact absurd h (by simp)
   ·split at h
    ·injection h with h;injection h with e1 h;subst e1;rfl
    ·split at h
     ·rw[parts_noreg hr _ _ _ _ _ _ _ h]
     ·exact absurd h (by simp)
 ·exact absurd h (by simp)
theorem states_noreg (hr:∀c i x,reg c i≠.ok x):∀(n:Nat) (l:List (StF ρ)) (c i:Nat) (l':List (StF ρ)) (c' j:Nat),states L ρ reg n l c i=.ok (l',c',j)->(∀x∈l,x.regions=[])->∀x∈l',x.regions=[]:=by
 intro n
 induction n with
 | zero=>intro l c i l' c' j h hl;rw[states] at h;injection h with h;injection h with e1 h;subst e1;exact hl
 | succ n ih=>
  intro l c i l' c' j h hl
  rw[states] at h
  split at h
  ·split at h
   ·exact absurd h (by simp)
   ·rename_i s c1 m hs
    exact ih _ _ _ _ _ _ h (fun x hx=>(List.mem_append.1 hx).elim (hl x) (fun hx=>by rw[List.mem_singleton.1 hx];exact state_noreg hr hs))
  ·split at h
   ·injection h with h;injection h with e1 h;subst e1;exact hl
   ·exact absurd h (by simp)
end
theorem region_b {L:List Tok}(hL:Wf L) (hn:Wn L):∀k,DRB L (SSt k) (stateK k) (cSt k) (region L k):=by
 intro k
 induction k with
 | zero=>intro c i l c' j h;rw[region] at h;exact absurd h (by simp)
 | succ k ih=>
  intro c i l c' j h
  have h':@ite (Except F (List (StF (St k))×Nat×Nat)) (tx L i=kOpen) _ (states L (St k) (region L k) L.length [] c (i+1)) (.error (3,pl L i))=.ok (l,c',j):=h
  by_cases ht:tx L i=kOpen
  ·rw[if_pos ht] at h'
   have:=tx_lt ht (by simp[kOpen])
   obtain ⟨q1,q2,q3,q4,q5,q6⟩:=states_b hL hn ih _ _ _ _ _ _ _ h' (by omega) (by omega) (fun x hx=>absurd hx (by simp)) (by omega)
   refine ⟨fun x hx=>⟨q1 x hx,fun hk=>?_⟩,by omega,?_,q4,q5,q6⟩
   ·subst hk
    exact states_noreg (fun c i x hx=>by rw[region] at hx;exact absurd hx (by simp)) _ _ _ _ _ _ _ h' (fun x hx=>absurd hx (by simp)) x hx
   ·have e:([]:List (StF (St k))).flatMap (stK (regK (stateK k)))=[]:=rfl
    rw[e,List.length_nil] at q3
    show (List.flatMap (stK (regK (stateK k))) l).length+2≤_
    omega
  ·rw[if_neg ht] at h'
   exact absurd h' (by simp)
end Px
end
section
namespace Px
open Go.Lib Lx
section
variable {L:List Tok}
theorem first_b (hL:Wf L) {i j:Nat}{n:Int}(h:first L i=.ok (n,j)):(-1000000000000000000<n/\n<1000000000000000000)/\i≤j/\(firstK n).length≤j-i:=by
 unfold first at h
 split at h
 ·split at h
  ·split at h
   ·exact absurd h (by simp)
   ·rename_i q hq
    have:=number_w hL hq
    injection h with h;injection h with e1 e2
    subst e1;subst e2
    refine ⟨⟨by omega,by omega⟩,by omega,?_⟩
    unfold firstK
    split
    ·split
     ·simp
     ·simp
    ·simp
  ·split at h
   ·exact absurd h (by simp)
   ·rename_i q hq
    have:=number_w hL hq
    injection h with h;injection h with e1 e2
    subst e1;subst e2
    refine ⟨⟨by omega,by omega⟩,by omega,?_⟩
    unfold firstK
    split
    ·split
     ·omega
     ·simp
    ·simp
 ·injection h with h;injection h with e1 e2
  subst e1;subst e2
  exact ⟨⟨by omega,by omega⟩,by omega,by simp[firstK]⟩
theorem declK_len (v:Decl):(declK v).length=(firstK v.first).length+3:=by
 have e:declK v=(1,kindT v.kind)::(1,v.name)::(firstK v.first++[(3,kSemi)]):=rfl
 rw[e];simp
theorem variable_b (hL:Wf L) (hn:Wn L) {k i j:Nat}{v:Decl}(h1:1≤k) (h3:k≤3) (h:variable_ L k i=.ok (v,j)):SD v/\i<j/\(declK v).length≤j-i+1/\j≤L.length:=by
 unfold variable_ at h
 split at h
 ·exact absurd h (by simp)
 ·rename_i s hs
  split at h
  ·exact absurd h (by simp)
  ·rename_i n m hf
   obtain ⟨f1,f2,f3⟩:=first_b hL hf
   split at h
   ·rename_i ht
    have:=tx_lt ht (by simp[kSemi])
    injection h with h;injection h with e1 e2
    subst e1;subst e2
    have hd:=declK_len ⟨k,s,n⟩
    have e:(firstK (Decl.first ⟨k,s,n⟩)).length=(firstK n).length:=rfl
    rw[e] at hd
    exact ⟨⟨⟨h1,h3⟩,nm_name hn hs,f1.1,f1.2⟩,by omega,by omega,by omega⟩
   ·exact absurd h (by simp)
theorem items_b (hL:Wf L) (hn:Wn L):∀(n:Nat) (vs:List Decl) (rs:List (List (St 6))) (c i:Nat) (vs':List Decl) (rs':List (List (St 6))) (j:Nat),items L n vs rs c i=.ok (vs',rs',j)->n≠0->L.length<i+n->(∀v∈vs,SD v)->(∀r∈rs,∀x∈r,SSt 6 x)->i≤L.length->vs.length≤20->c=sumW (sumW (cSt 6)) rs->c≤24->
    (∀v∈vs',SD v)/\(∀r∈rs',∀x∈r,SSt 6 x)/\i<j/\(vs'.flatMap declK).length+(regK (stateK 6) rs').length+1≤(vs.flatMap declK).length+(regK (stateK 6) rs).length+(j-i)/\tx L (j-1)=kShut/\vs'.length≤20/\sumW (sumW (cSt 6)) rs'≤24:=by
 intro n
 induction n with
 | zero=>intro vs rs c i vs' rs' j _ h0;exact absurd rfl h0
 | succ n ih=>
  intro vs rs c i vs' rs' j h _ hn1 hv hr hi h20 hc h24
  rw[items] at h
  split at h
  ·rename_i hk
   split at h
   ·exact absurd h (by simp)
   ·split at h
    ·exact absurd h (by simp)
    ·rename_i v m hd
     obtain ⟨p1,p2,p3,p4⟩:=variable_b hL hn (by omega) (kindOf_le _) hd
     by_cases h0:n=0
     ·omega
     ·obtain ⟨q1,q2,q3,q4,q5,q6,q7⟩:=ih _ _ _ _ _ _ _ h h0 (by omega) (fun x hx=>(List.mem_append.1 hx).elim (hv x) (fun hx=>by rw[List.mem_singleton.1 hx];exact p1)) hr p4 (by simp;omega) hc h24
      have e:((vs++[v]).flatMap declK).length=(vs.flatMap declK).length+(declK v).length:=by simp
      rw[e] at q4
      exact ⟨q1,q2,by omega,by omega,q5,q6,q7⟩
  ·split at h
   ·split at h
    ·exact absurd h (by simp)
    ·rename_i l c1 m hd
     obtain ⟨p1,p2,p3,p4,p5,p6⟩:=region_b hL hn 6 _ _ _ _ _ hd
     by_cases h0:n=0
     ·omega
     ·obtain ⟨q1,q2,q3,q4,q5,q6,q7⟩:=ih _ _ _ _ _ _ _ h h0 (by omega) hv (fun x hx=>(List.mem_append.1 hx).elim (hr x) (fun hx=>by rw[List.mem_singleton.1 hx];exact p1)) p4 h20 (by rw[sumW_append,sumW_one,p5,hc]) (p6 h24)
      rw[regK_app] at q4
      exact ⟨q1,q2,by omega,by omega,q5,q6,q7⟩
   ·split at h
    ·rename_i ht
     injection h with h;injection h with e1 h;injection h with e2 e3
     subst e1;subst e2;subst e3
     exact ⟨hv,hr,by omega,by omega,by simpa using ht,h20,by omega⟩
    ·exact absurd h (by simp)
theorem chart_b (hL:Wf L) (hn:Wn L) {c:Chart}(h:chart L=.ok c):SC c/\c.vars.length≤20/\sumW (sumW (cSt 6)) c.regions≤24/\∃j,tx L j=kShut/\(chartK c).length≤j+1:=by
 unfold chart at h
 split at h
 ·split at h
  ·exact absurd h (by simp)
  ·rename_i s hs
   split at h
   ·rename_i ht
    have h2:=tx_lt ht (by simp[kOpen])
    split at h
    ·exact absurd h (by simp)
    ·rename_i vs rs i hi
     obtain ⟨q1,q2,q3,q4,q5,q6,q7⟩:=items_b hL hn _ _ _ _ _ _ _ _ hi (by omega) (by omega) (fun v hv=>absurd hv (by simp)) (fun v hv=>absurd hv (by simp)) (by omega) (by simp) rfl (by omega)
     split at h
     ·injection h with h
      subst h
      refine ⟨⟨nm_name hn hs,q1,q2⟩,q6,q7,i-1,q5,?_⟩
      have e1:(([]:List Decl).flatMap declK).length=0:=rfl
      have e2:(regK (stateK 6) []).length=0:=rfl
      rw[e1,e2] at q4
      simp only[chartK,List.length_cons,List.length_append,List.length_nil]
      omega
     ·exact absurd h (by simp)
   ·exact absurd h (by simp)
 ·exact absurd h (by simp)
theorem nS_ge (l:List Asg):l.length≤nS l:=by
 induction l with
 | nil=>simp
 | cons a r ih=>rw[nS,List.length_cons];omega
theorem mom_ge (w:Str) (l:List Asg):l.length≤(momK w l).length/\one01 l≤(momK w l).length:=by
 have:=nS_ge l
 rw[momK_len]
 unfold one01
 split
 ·rename_i h;subst h;simp
 ·constructor<;>omega
theorem flat_mem {α:Type}{k:α->List Kt}{l:List α}{a:α}(h:a∈l):(k a).length≤(l.flatMap k).length:=by
 induction l with
 | nil=>exact absurd h (by simp)
 | cons b r ih=>
  rw[List.flatMap_cons,List.length_append]
  rcases List.mem_cons.1 h with rfl|h
  ·omega
  ·have:=ih h;omega
theorem does_ge (l:List Asg):l.length≤(doesK l).length:=by
 cases l with
 | nil=>simp
 | cons a r=>
  have h1:=nS_len a r
  have h2:=nS_ge (a::r)
  rw[doesK,List.length_cons (a:=(1,kDo))];omega
theorem way_ge (y:Wy):y.sets.length≤(wayK y).length/\0<(wayK y).length:=by
 have:=does_ge y.sets
 simp only[wayK,List.length_cons,List.length_append]
 omega
theorem flat_ge {α:Type}{k:α->List Kt}(l:List α) (h:∀a∈l,0<(k a).length):l.length≤(l.flatMap k).length:=by
 induction l with
 | nil=>simp
 | cons a r ih=>
  have:=ih (fun b hb=>h b (by simp[hb]))
  have:=h a (by simp)
  rw[List.flatMap_cons,List.length_append,List.length_cons];omega
theorem fits_of {ρ:Type}{sk':ρ->List Kt}{s:StF ρ}(h:(stK (regK sk') s).length≤L.length):Fits L s:=by
 have h0:=stK_len (sk':=sk') s
 have h1:=inK_len (sk':=sk') s
 have h2:nIn sk' s+1≤(stK (regK sk') s).length:=by
  rw[h0]
  unfold tailK
  split
  ·rename_i e;rw[e,List.length_nil] at h1;simp;omega
  ·simp only[List.length_cons,List.length_append,List.length_nil];omega
 unfold nIn at h2
 have m1:=mom_ge kEntry s.enter
 have m2:=mom_ge kDuring s.during
 have m3:=mom_ge kExit s.leave
 have m4:one01 (restK s.rests)≤(restK s.rests).length:=by
  unfold one01
  split
  ·omega
  ·rename_i hne;exact List.length_pos_iff.2 hne
 have m5:=flat_ge (k:=wayK) s.ways (fun y _=>(way_ge y).2)
 have m6:s.regions.length≤(regK sk' s.regions).length:=flat_ge (k:=oneRegK sk') s.regions (fun r _=>by simp[oneRegK])
 refine ⟨by omega,by omega,by omega,fun y hy=>?_,?_⟩
 ·have a1:=flat_mem (k:=wayK) hy
  have a2:=(way_ge y).1
  omega
 ·unfold lines;omega
theorem fst_of:∀(k:Nat) (x:St k),(stateK k x).length≤L.length->FSt L k x:=by
 intro k
 induction k with
 | zero=>intro _ _;trivial
 | succ k ih=>
  intro x hx
  have hx':(stK (regK (stateK k)) x).length≤L.length:=hx
  refine ⟨fits_of (sk':=stateK k) hx',fun r hr y hy=>ih y ?_⟩
  have h0:=stK_len (sk':=stateK k) x
  have h1:=inK_len (sk':=stateK k) x
  have h2:nIn (stateK k) x≤(stK (regK (stateK k)) x).length:=by
   rw[h0]
   unfold tailK
   split
   ·rename_i e;rw[e,List.length_nil] at h1;simp;omega
   ·simp only[List.length_cons,List.length_append,List.length_nil];omega
  unfold nIn at h2
  have a1:(oneRegK (stateK k) r).length≤(regK (stateK k) (StF.regions x)).length:=flat_mem (k:=oneRegK (stateK k)) hr
  have a2:=flat_mem (k:=stateK k) hy
  have a3:(oneRegK (stateK k) r).length=(r.flatMap (stateK k)).length+3:=by simp[oneRegK]
  omega
end
end Px
open Px
theorem rd_one {u:List UInt8}(h:(Lx.rd u).1=1):(∃c r,u.take (Lx.rd u).2=c::r/\Lx.alpha c=true)/\∀x∈u.take (Lx.rd u).2,Lx.word x=true:=by
 cases u with
 | nil=>simp[Lx.rd] at h
 | cons c r=>
  by_cases hc:Lx.digit c=true
  ·rw[Lx.rd_cons,if_pos hc] at h;simp at h
  ·by_cases hw:Lx.word c=true
   ·have e:(Lx.rd (c::r)).2=Lx.wh Lx.word (c::r):=by rw[Lx.rd_cons,if_neg hc,if_pos hw]
    rw[e]
    refine ⟨⟨c,r.take (Lx.wh Lx.word r),?_,?_⟩,fun d hd=>mem_wh _ _ hd⟩
    ·simp[Lx.wh,hw]
    ·unfold Lx.word at hw
     simp only[Bool.or_eq_true] at hw
     exact hw.resolve_right hc
   ·rw[Lx.rd_cons,if_neg hc,if_neg hw] at h
    by_cases hm:Lx.mk (c::r)=0
    ·rw[if_pos hm] at h;simp at h
    ·rw[if_neg hm] at h;simp at h
theorem reads_words {l:List Lx.Tok}:∀{u:List UInt8}{p:Nat}{u1:List UInt8}{p1:Nat},Lx.Reads u p l u1 p1->∀t∈l,t.kind=1->(∃c r,t.text=c::r/\Lx.alpha c=true)/\∀x∈t.text,Lx.word x=true:=by
 induction l with
 | nil=>intro _ _ _ _ _ t ht;simp at ht
 | cons x r ih=>
  intro u p u1 p1 h t ht h1
  obtain ⟨a,b,c,d,e⟩:=h
  rcases List.mem_cons.1 ht with rfl|ht
  ·subst b
   exact rd_one h1
  ·exact ih e t ht h1
theorem wn_ok {s:ByteArray}{l:List Lx.Tok}(h:Lx.Ok (bs s) l):Wn (fin s l):=by
 obtain ⟨hn,u,p,hr,_⟩:=h
 have he:=reads_words hr
 intro k hk
 rcases fin_get s l k with h|h|h
 ·exact he _ h.2 hk
 ·rw[kd,h.2] at hk;simp at hk
 ·rw[kd,tok_none h.2] at hk;simp at hk
theorem chart_twice {s t:ByteArray}{l:List Lx.Tok}{c:Chart}(hok:Lx.Ok (bs s) l) (h:chart (fin s l)=.ok c) (ht:bs t=printT c):∃l',Lx.Ok (bs t) l'/\chart (fin t l')=.ok c:=by
 obtain ⟨h1,h2,h3,j,h4,h5⟩:=chart_b (wf_ok hok) (wn_ok hok) h
 have hj:j<l.length:=by
  rcases fin_get s l j with h'|h'|h'
  ·exact h'.1
  ·rw[tx,h'.2] at h4;exact absurd h4 (by simp[kShut])
  ·rw[tx,tok_none h'.2] at h4;exact absurd h4 (by simp[kShut])
 have h600:(chartK c).length≤600:=by have:=hok.1;omega
 have hlex:=chart_lex h1
 rw[<-ht] at hlex
 obtain ⟨l',hok',hp⟩:=Lx.lexes_ok hlex h600
 have hl':=Lx.placed_len hp
 have hfl:=fin_len t l'
 refine ⟨l',hok',chart_again h1 ?_ h2 h3 ?_ ?_ ?_⟩
 ·intro r hr x hx
  refine fst_of 6 x ?_
  have a1:(oneRegK (stateK 6) r).length≤(regK (stateK 6) c.regions).length:=flat_mem (k:=oneRegK (stateK 6)) hr
  have a2:=flat_mem (k:=stateK 6) hx
  have a3:(oneRegK (stateK 6) r).length=(r.flatMap (stateK 6)).length+3:=by simp[oneRegK]
  have a4:(regK (stateK 6) c.regions).length≤(chartK c).length:=by simp only[chartK,List.length_cons,List.length_append];omega
  omega
 ·have b1:c.vars.length≤(c.vars.flatMap declK).length:=flat_ge (k:=declK) c.vars (fun v _=>by rw[declK_len];omega)
  have b2:c.regions.length≤(regK (stateK 6) c.regions).length:=flat_ge (k:=oneRegK (stateK 6)) c.regions (fun r _=>by simp[oneRegK])
  have b3:(chartK c).length=(c.vars.flatMap declK).length+(regK (stateK 6) c.regions).length+4:=by simp only[chartK,List.length_cons,List.length_append,List.length_nil];omega
  omega
 ·intro i x hx
  obtain ⟨p,hp'⟩:=Lx.placed_at hp i x hx
  have hi:i<l'.length:=(List.getElem?_eq_some_iff.1 hp').1
  have e:tok (fin t l') (0+i)=⟨x.1,x.2,p⟩:=by
   rw[Nat.zero_add]
   simp[tok,fin,List.getD_eq_getElem?_getD,List.getElem?_append_left hi,hp']
  exact ⟨by rw[kd,e],by rw[tx,e]⟩
 ·rw[kd,<-hl']
  have e:tok (fin t l') l'.length=⟨4,[],t.size⟩:=by simp[tok,fin,List.getD_eq_getElem?_getD]
  rw[e]
end
end Go.Proofs.YtpogmfliojcnjaaGreatDoor
