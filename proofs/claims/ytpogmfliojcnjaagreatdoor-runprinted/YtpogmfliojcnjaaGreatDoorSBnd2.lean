import Derived.Test.YtpogmfliojcnjaaGreatDoorSBack5
namespace Go.Proofs.YtpogmfliojcnjaaGreatDoor
section
namespace Px
open Go.Lib Lx
def condK (y:Wy):List Kt:=
 match y.cond with
 | .nil=>[]
 | .node b o a l r=>(1,kIf)::((if 1<y.times then [(1,kCount),(2,itoa y.times)] else [])++exprK (.node b o a l r) 1)
def doesK:List Asg->List Kt
 | []=>[]
 | a::r=>(1,kDo)::setsK (a::r)
def optK (b:Bool) (s:Str):List Kt:=if b then [(1,s)] else []
def wayK (y:Wy):List Kt:=(1,leadT y.kind)::(optK y.now kImm++(condK y++(doesK y.sets++((3,kArrow)::(1,y.to)::(optK y.back kHist++[(3,kSemi)])))))
def SW (y:Wy):Prop:=y.kind≤2/\1≤y.times/\y.times≤1000/\((y.cond=.nil/\y.times=1)\/(SE y.cond/\dpE y.cond 1≤7))/\SS y.sets/\NameOk y.to
theorem lx_key {s v:Str}{ks:List Kt}(h1:∃c r,s=c::r/\alpha c=true) (h2:∀x∈s,word x=true) (hv:Sep v) (h:Lexes ks v):Lexes ((1,s)::ks) (32::(s++v)):=lx_blank (by decide) (lx_word h1 h2 hv h)
theorem optK_lex {b:Bool}{s v:Str}{ks:List Kt}(h1:∃c r,s=c::r/\alpha c=true) (h2:∀x∈s,word x=true) (hv:Sep v) (h:Lexes ks v):Lexes (optK b s++ks) ((if b then 32::s else [])++v)/\Sep ((if b then 32::s else [])++v):=by
 cases b with
 | false=>exact ⟨h,hv⟩
 | true=>exact ⟨lx_key h1 h2 hv h,sep_cons (by decide)⟩
theorem condK_lex {y:Wy}(h:SW y) {v:Str}{ks:List Kt}(hv:Sep v) (hl:Lexes ks v):Lexes (condK y++ks) (condT y++v)/\Sep (condT y++v):=by
 obtain ⟨_,t1,t2,h3,_⟩:=h
 unfold condK condT
 rcases h3 with ⟨h3,_⟩|⟨h3,_⟩
 ·rw[h3];exact ⟨hl,hv⟩
 ·cases he:y.cond with
  | nil=>rw[he] at h3;exact absurd h3 (by simp[SE])
  | node b o a l r=>
   rw[he] at h3
   have q:=exprK_lex h3 1 v ks hv hl
   rw[exprT_zero] at q
   refine ⟨?_,sep_cons (by decide)⟩
   show Lexes ((1,kIf)::(((if 1<y.times then [(1,kCount),(2,itoa y.times)] else [])++exprK (.node b o a l r) 1)++ks)) _
   by_cases ht:1<y.times
   ·rw[if_pos ht,if_pos ht]
    have q2:=lx_num (n:=(y.times:Int)) (by omega) (by omega) (sep_cons (by decide)) (lx_blank (c:=32) (by decide) q)
    have q3:=lx_key (s:=kCount) ⟨99,_,rfl,rfl⟩ (by decide) (sep_cons (c:=32) (by decide)) (lx_blank (c:=32) (by decide) q2)
    have q4:=lx_key (s:=kIf) ⟨105,_,rfl,rfl⟩ (by decide) (sep_cons (c:=32) (by decide)) q3
    simpa [kIf,kCount,List.append_assoc] using q4
   ·rw[if_neg ht,if_neg ht]
    have q4:=lx_key (s:=kIf) ⟨105,_,rfl,rfl⟩ (by decide) (sep_cons (c:=32) (by decide)) (lx_blank (c:=32) (by decide) q)
    simpa [kIf,List.append_assoc] using q4
theorem doesK_lex {l:List Asg}(h:SS l) {v:Str}{ks:List Kt}(hv:Sep v) (hl:Lexes ks v):Lexes (doesK l++ks) (doesT l++v)/\Sep (doesT l++v):=by
 cases l with
 | nil=>exact ⟨hl,hv⟩
 | cons a r=>
  have q:=setsK_lex r a h v ks hv hl
  have q4:=lx_key (s:=kDo) ⟨100,_,rfl,rfl⟩ (by decide) (sep_cons (c:=32) (by decide)) (lx_blank (c:=32) (by decide) q)
  refine ⟨?_,by unfold doesT;rw[if_neg (by simp)];exact sep_cons (by decide)⟩
  unfold doesT
  rw[if_neg (by simp)]
  simpa [kDo,doesK,List.append_assoc] using q4
theorem lead_word {k:Nat}:(∃c r,leadT k=c::r/\alpha c=true)/\∀x∈leadT k,word x=true:=by
 unfold leadT
 split
 ·exact ⟨⟨97,_,rfl,rfl⟩,by decide⟩
 ·split
  ·exact ⟨⟨106,_,rfl,rfl⟩,by decide⟩
  ·exact ⟨⟨103,_,rfl,rfl⟩,by decide⟩
theorem wayK_lex {y:Wy}(h:SW y) {v:Str}{ks:List Kt}(hl:Lexes ks v):Lexes (wayK y++ks) (wayT y++v):=by
 have h0:=h
 obtain ⟨_,_,_,_,h4,n1,n2,_⟩:=h
 have q1:=lx_mark (t:=kSemi) (by decide) hl
 obtain ⟨q2,s2⟩:=optK_lex (b:=y.back) (s:=kHist) ⟨104,_,rfl,rfl⟩ (by decide) (sep_cons (c:=59) (by decide)) q1
 have q3:=lx_blank (c:=32) (by decide) (lx_mark (t:=kArrow) (by decide) (lx_blank (c:=32) (by decide) (lx_word n1 n2 s2 q2)))
 obtain ⟨q4,s4⟩:=doesK_lex h4 (sep_cons (c:=32) (by decide)) q3
 obtain ⟨q5,s5⟩:=condK_lex h0 s4 q4
 obtain ⟨q6,s6⟩:=optK_lex (b:=y.now) (s:=kImm) ⟨105,_,rfl,rfl⟩ (by decide) s5 q5
 have q7:=lx_word (lead_word (k:=y.kind)).1 (lead_word (k:=y.kind)).2 s6 q6
 simpa [wayK,wayT,kImm,kHist,kArrow,kSemi,List.append_assoc] using q7
section
variable {L:List Tok}
theorem val_times {n:Nat}:val (itoa (n:Int))=n:=by
 have:=val_itoa (n:=(n:Int)) (by omega)
 omega
theorem fstK:∀{e:E},SE e->∀m,∃x r,exprK e m=x::r/\x.2≠kCount:=by
 intro e
 induction e with
 | nil=>intro h;exact absurd h (by simp[SE])
 | node b o a l r ihl ihr=>
  intro h m
  obtain ⟨_,_,h|h|h|h⟩:=h
  ·obtain ⟨h1,h2,h3,_⟩:=h
   obtain ⟨n1,n2,_⟩:=itoa_digits h2 h3
   rw[exprK,if_pos h1]
   refine ⟨_,_,rfl,fun e=>?_⟩
   have:=n2 99 (by rw[show itoa a.num=kCount from e];decide)
   exact absurd this (by decide)
  ·obtain ⟨h1,_,⟨_,_,hk,_⟩,_⟩:=h
   rcases h1 with h1|h1
   ·rw[exprK,if_neg (by omega),if_pos h1]
    refine ⟨_,_,rfl,fun e=>?_⟩
    rw[show a.name=kCount from e] at hk
    exact absurd hk (by decide)
   ·rw[exprK,if_neg (by omega),if_neg (by omega),if_pos h1]
    exact ⟨_,_,rfl,by decide⟩
  ·obtain ⟨h1,_⟩:=h
   rw[exprK,if_neg (by omega),if_neg (by omega),if_neg (by omega),if_pos h1]
   refine ⟨_,_,rfl,?_⟩
   rcases h1 with h1|h1
   ·rw[h1];decide
   ·rw[h1];decide
  ·obtain ⟨h1,h2,_,_,h3,_⟩:=h
   rw[exprK,if_neg (by omega),if_neg (by omega),if_neg (by omega),if_neg (by omega),brackK]
   split
   ·exact ⟨_,_,rfl,by decide⟩
   ·obtain ⟨x,q,e,hx⟩:=ihl h3 (line a.code)
    rw[e]
    exact ⟨x,_,rfl,hx⟩
theorem cond_again {y:Wy}(h:SW y) {i:Nat}{x:Kt}{ks:List Kt}(ha:Ats L i (condK y++(x::ks))) (hx:x.2≠kIf) (hs:∀t,t<5->codeAt t x.2=0):cond L i=.ok (y.times,y.cond,i+(condK y).length):=by
 obtain ⟨_,t1,t2,h3,_⟩:=h
 have hr:=ha.right.head
 unfold cond
 rcases h3 with ⟨h3,h4⟩|⟨h3,h4⟩
 ·have e:condK y=[]:=by unfold condK;rw[h3]
  rw[e] at ha hr ⊢
  rw[if_neg (by rw[show tx L i=x.2 from hr.2];exact hx),h3,h4]
  rfl
 ·cases he:y.cond with
  | nil=>rw[he] at h3;exact absurd h3 (by simp[SE])
  | node b o a l r=>
   have e:condK y=(1,kIf)::((if 1<y.times then [(1,kCount),(2,itoa y.times)] else [])++exprK y.cond 1):=by unfold condK;rw[he]
   rw[<-he]
   rw[e] at ha hr ⊢
   have a0:=ha.left.head
   rw[if_pos a0.2]
   by_cases ht:1<y.times
   ·rw[if_pos ht] at ha hr ⊢
    have a1:=ha.left.tail.left.head
    have a2:=ha.left.tail.left.tail.head
    have a3:Ats L (i+3) (exprK y.cond 1):=ha.left.tail.right
    have p:i+((1,kIf)::([(1,kCount),(2,itoa ↑y.times)]++exprK y.cond 1)).length=i+3+(exprK y.cond 1).length:=by simp;omega
    rw[p] at hr ⊢
    have q:=expr_again h3 h4 a3 (fun t _ t5=>by rw[hr.2];exact hs t t5)
    have ht':times L (i+2)=.ok y.times:=by
     unfold times number
     rw[if_pos a2.1,a2.2,val_times]
     show (if y.times<1\/1000<y.times then _ else _)=_
     rw[if_neg (by omega)]
    rw[if_pos a1.2,ht',q]
   ·rw[if_neg ht] at ha hr ⊢
    have a3:Ats L (i+1) (exprK y.cond 1):=ha.left.tail.right
    have p:i+((1,kIf)::([]++exprK y.cond 1)).length=i+1+(exprK y.cond 1).length:=by simp;omega
    rw[p] at hr ⊢
    have q:=expr_again h3 h4 a3 (fun t _ t5=>by rw[hr.2];exact hs t t5)
    obtain ⟨x1,r1,e1,hne⟩:∃x1 r1,exprK y.cond 1=x1::r1/\x1.2≠kCount:=by
     exact fstK h3 1
    have a1:tx L (i+1)≠kCount:=by
     rw[e1] at a3
     rw[a3.head.2];exact hne
    rw[if_neg a1,q,show y.times=1 by omega]
end
end Px
end
section
namespace Px
open Go.Lib Lx
section
variable {L:List Tok}
theorem does_again {l:List Asg}(h:SS l) {i:Nat}{x:Kt}{ks:List Kt}(hL:l.length≤L.length) (ha:Ats L i (doesK l++(x::ks))) (hx:x.2≠kDo) (hc:x.2≠kComma) (hs:∀t,t<5->codeAt t x.2=0):does L i=.ok (l,i+(doesK l).length):=by
 have hr:=ha.right.head
 unfold does
 cases l with
 | nil=>rw[if_neg (by rw[show tx L i=x.2 from hr.2];exact hx)];rfl
 | cons a r=>
  have a0:=ha.left.head
  have a1:Ats L (i+1) (setsK (a::r)):=ha.left.tail
  have p:i+(doesK (a::r)).length=i+1+(setsK (a::r)).length:=by simp[doesK];omega
  rw[p] at hr ⊢
  rw[if_pos a0.2]
  have q:=sets_again r a h L.length [] (i+1) (by simp at hL;omega) a1 (fun t _ t5=>by rw[hr.2];exact hs t t5) (by rw[hr.2];exact hc)
  rw[q];rfl
theorem arrow_stop:∀t,t<5->codeAt t kArrow=0:=fun t ht=>(show ∀t:Fin 5,codeAt t.val kArrow=0 by decide) ⟨t,ht⟩
theorem do_stop:∀t,t<5->codeAt t kDo=0:=fun t ht=>(show ∀t:Fin 5,codeAt t.val kDo=0 by decide) ⟨t,ht⟩
theorem does_head (l:List Asg) (ks:List Kt):∃x r,doesK l++((3,kArrow)::ks)=x::r/\(x.2=kDo\/x.2=kArrow):=by
 cases l with
 | nil=>exact ⟨_,_,rfl,.inr rfl⟩
 | cons a r=>exact ⟨_,_,rfl,.inl rfl⟩
theorem cond_head (y:Wy) (x:Kt) (r:List Kt) (h:x.2=kDo\/x.2=kArrow):∃x' r',condK y++(x::r)=x'::r'/\(x'.2=kIf\/x'.2=kDo\/x'.2=kArrow):=by
 unfold condK
 split
 ·exact ⟨x,r,rfl,.inr h⟩
 ·exact ⟨_,_,rfl,.inl rfl⟩
theorem opt_yes {s:Str}{i:Nat}(h:tx L i=s):opt L s i=i+1:=by unfold opt;rw[if_pos h]
theorem opt_no {s:Str}{i:Nat}(h:tx L i≠s):opt L s i=i:=by unfold opt;rw[if_neg h]
theorem way_again {y:Wy}(h:SW y) {i:Nat}{ks:List Kt}(hL:y.sets.length≤L.length) (ha:Ats L i (wayK y++ks)):way L y.kind (i+1)=.ok (y,i+(wayK y).length):=by
 have h0:=h
 obtain ⟨k2,t1,t2,h3,h4,h5⟩:=h
 have ha1:Ats L (i+1) (optK y.now kImm++(condK y++(doesK y.sets++((3,kArrow)::(1,y.to)::(optK y.back kHist++[(3,kSemi)]))))):=ha.left.tail
 obtain ⟨x,r,e,hx⟩:=does_head y.sets ((1,y.to)::(optK y.back kHist++[(3,kSemi)]))
 have hxs:∀t,t<5->codeAt t x.2=0:=fun t ht=>by rcases hx with hx|hx<;>rw[hx];exact do_stop t ht;exact arrow_stop t ht
 have hxi:x.2≠kIf:=by rcases hx with hx|hx<;>rw[hx]<;>decide
 obtain ⟨x',r',e',hx'⟩:=cond_head y x r hx
 have n0:opt L kImm (i+1)=i+1+(optK y.now kImm).length/\decide (tx L (i+1)=kImm)=y.now:=by
  cases hn:y.now with
  | true=>
   rw[hn] at ha1
   have:=ha1.head
   exact ⟨opt_yes this.2,decide_eq_true this.2⟩
  | false=>
   rw[hn,e,e'] at ha1
   have:=ha1.head
   have hne:tx L (i+1)≠kImm:=by rw[this.2];rcases hx' with hx'|hx'|hx'<;>rw[hx']<;>decide
   exact ⟨opt_no hne,decide_eq_false hne⟩
 have ha2:=ha1.right
 have c:=cond_again h0 (e▸ha2) hxi hxs
 have ha3:=ha2.right
 have dd:=does_again h4 hL ha3 (show kArrow≠kDo by decide) (show kArrow≠kComma by decide) arrow_stop
 have ha4:=ha3.right
 have b1:=ha4.head
 have b2:=ha4.tail.head
 have ha5:=ha4.tail.tail
 unfold way
 rw[n0.1,c]
 show (match does L (i+1+(optK y.now kImm).length+(condK y).length) with | .error x=>_ | .ok (l,m)=>_)=_
 rw[dd]
 show (if tx L (i+1+(optK y.now kImm).length+(condK y).length+(doesK y.sets).length)=kArrow then _ else _)=_
 rw[if_pos b1.2,nm_ok h5 b2.1 b2.2]
 generalize hp:i+1+(optK y.now kImm).length+(condK y).length+(doesK y.sets).length=p at *
 have len:i+(wayK y).length=p+2+(optK y.back kHist).length+1:=by rw[<-hp];simp[wayK];omega
 rw[len]
 have n5:opt L kHist (p+2)=p+2+(optK y.back kHist).length/\decide (tx L (p+2)=kHist)=y.back/\tx L (p+2+(optK y.back kHist).length)=kSemi:=by
  have hz:=ha5.right.head
  cases hn:y.back with
  | true=>
   rw[hn] at ha5 hz
   have:=ha5.head
   exact ⟨opt_yes this.2,decide_eq_true this.2,hz.2⟩
  | false=>
   rw[hn] at ha5 hz
   have:=ha5.head
   have hne:tx L (p+2)≠kHist:=by rw[show tx L (p+2)=kSemi from this.2];decide
   exact ⟨opt_no hne,decide_eq_false hne,this.2⟩
 show (if tx L (opt L kHist (p+2))=kSemi then _ else _)=_
 rw[n5.1,if_pos n5.2.2,n0.2,n5.2.1]
theorem times_b {i n:Nat}(h:times L i=.ok n):1≤n/\n≤1000:=by
 unfold times at h
 split at h
 ·exact absurd h (by simp)
 ·split at h
  ·exact absurd h (by simp)
  ·injection h with h;omega
theorem cond_b (hL:Wf L) (hn:Wn L) {i n j:Nat}{e:E}(h:cond L i=.ok (n,e,j)):(1≤n/\n≤1000)/\((e=.nil/\n=1)\/(SE e/\dpE e 1≤7))/\i≤j/\∀y:Wy,y.cond=e->y.times=n->(condK y).length≤j-i:=by
 have cl:∀(y:Wy) (x:Nat),(1<y.times->(exprK y.cond 1).length+3≤x)->(exprK y.cond 1).length+1≤x->(condK y).length≤x:=fun y x h1 h2=>by
  unfold condK
  split
  ·simp
  ·rename_i b o a l r he
   rw[he] at h1 h2
   split
   ·rename_i ht;have:=h1 ht;simp;omega
   ·simp;omega
 unfold cond at h
 split at h
 ·split at h
  ·split at h
   ·exact absurd h (by simp)
   ·rename_i n' hn'
    split at h
    ·exact absurd h (by simp)
    ·rename_i e' m hr
     obtain ⟨t1,t2,t3,t4⟩:=expr_b hL hn hr
     injection h with h
     injection h with h1 h2
     injection h2 with h2 h3
     subst h1;subst h2;subst h3
     exact ⟨times_b hn',.inr ⟨t1,t2⟩,by omega,fun y hy _=>cl y _ (fun _=>by rw[hy];omega) (by rw[hy];omega)⟩
  ·split at h
   ·exact absurd h (by simp)
   ·rename_i e' m hr
    obtain ⟨t1,t2,t3,t4⟩:=expr_b hL hn hr
    injection h with h
    injection h with h1 h2
    injection h2 with h2 h3
    subst h1;subst h2;subst h3
    exact ⟨by omega,.inr ⟨t1,t2⟩,by omega,fun y hy ht=>cl y _ (fun h=>by omega) (by rw[hy];omega)⟩
 ·injection h with h
  injection h with h1 h2
  injection h2 with h2 h3
  subst h1;subst h2;subst h3
  exact ⟨by omega,.inl ⟨rfl,rfl⟩,Nat.le_refl _,fun y hy _=>by unfold condK;rw[hy];simp⟩
theorem SS_nil:SS []:=fun a ha=>absurd ha (by simp)
theorem does_b (hL:Wf L) (hn:Wn L) {i j:Nat}{l:List Asg}(h:does L i=.ok (l,j)):SS l/\i≤j/\(doesK l).length≤j-i:=by
 unfold does at h
 split at h
 ·obtain ⟨q1,q2,q3⟩:=sets_b hL hn _ _ _ _ _ h SS_nil
  rw[show nS []=0 from rfl] at q3
  refine ⟨q1,by omega,?_⟩
  cases l with
  | nil=>simp[doesK]
  | cons a r=>
   have:=nS_len a r
   rw[doesK,List.length_cons]
   omega
 ·injection h with h
  injection h with h1 h2
  subst h1;subst h2
  exact ⟨SS_nil,Nat.le_refl _,by simp[doesK]⟩
theorem opt_b (s:Str) (i:Nat):i+(optK (decide (tx L i=s)) s).length=opt L s i:=by
 unfold opt optK
 by_cases h:tx L i=s
 ·rw[if_pos h,decide_eq_true h];rfl
 ·rw[if_neg h,decide_eq_false h];rfl
theorem way_b (hL:Wf L) (hn:Wn L) {k i j:Nat}{y:Wy}(hk:k≤2) (h:way L k i=.ok (y,j)):SW y/\y.kind=k/\i<j/\(wayK y).length≤j-i+1/\j≤L.length:=by
 unfold way at h
 split at h
 ·exact absurd h (by simp)
 ·rename_i n e m hr
  obtain ⟨c1,c2,c3,c4⟩:=cond_b hL hn hr
  split at h
  ·exact absurd h (by simp)
  ·rename_i l q hd
   obtain ⟨d1,d2,d3⟩:=does_b hL hn hd
   split at h
   ·split at h
    ·exact absurd h (by simp)
    ·rename_i s hs
     split at h
     ·rename_i ht
      have:=tx_lt ht (by simp[kSemi])
      have o1:=opt_b (L:=L) kImm i
      have o2:=opt_b (L:=L) kHist (q+2)
      injection h with h
      injection h with h1 h2
      subst h1;subst h2
      have c5:=c4 ⟨k,decide (tx L i=kImm),e,n,l,s,decide (tx L (q+2)=kHist)⟩ rfl rfl
      refine ⟨⟨hk,c1.1,c1.2,c2,d1,nm_name hn hs⟩,rfl,by omega,?_,by omega⟩
      simp only[wayK,List.length_cons,List.length_append,List.length_nil]
      omega
     ·exact absurd h (by simp)
   ·exact absurd h (by simp)
end
end Px
end
section
namespace Px
open Go.Lib
def sumW {α:Type}(f:α->Nat):List α->Nat
 | []=>0
 | a::r=>f a+sumW f r
theorem sumW_append {α:Type}(f:α->Nat) (l m:List α):sumW f (l++m)=sumW f l+sumW f m:=by
 induction l with
 | nil=>simp[sumW]
 | cons a r ih=>rw[List.cons_append,sumW,sumW,ih];omega
theorem sumW_one {α:Type}(f:α->Nat) (a:α):sumW f [a]=f a:=by simp[sumW]
theorem flatMap_len {α:Type}(t:α->Str) (f:α->Nat) (c:Nat):∀(l:List α),(∀a∈l,(t a).length≤c*f a)->(l.flatMap t).length≤c*sumW f l:=by
 intro l
 induction l with
 | nil=>intro _;simp
 | cons a r ih=>
  intro h
  have h1:=h a (by simp)
  have h2:=ih (fun b hb=>h b (by simp[hb]))
  rw[List.flatMap_cons,List.length_append,sumW,Nat.mul_add];omega
section
variable {ρ:Type}
def wR (f:ρ->Nat) (r:List ρ):Nat:=1+sumW f r
def wStF (f:ρ->Nat) (s:StF ρ):Nat:=1+wS s.enter+wS s.during+wS s.leave+wE s.rests+sumW wW s.ways+sumW (wR f) s.regions
def TStF (T:ρ->Prop) (s:StF ρ):Prop:=s.name.length≤12/\TS s.enter/\TS s.during/\TS s.leave/\TE s.rests/\(∀y∈s.ways,TW y)/\∀r∈s.regions,∀x∈r,T x
end
def wSt:(k:Nat)->St k->Nat
 | 0=>fun _=>0
 | k+1=>fun s=>wStF (wSt k) s
def TSt:(k:Nat)->St k->Prop
 | 0=>fun _=>True
 | k+1=>fun s=>TStF (TSt k) s
section
variable {ρ:Type}{f:ρ->Nat}{T:ρ->Prop}
theorem momT_len {d:Nat}(hd:d≤40) {word:Str}(hw:word.length≤8) {l:List Asg}(h:TS l):(momT d word l).length≤300*wS l:=by
 unfold momT
 split
 ·simp
 ·rename_i hne
  have h1:=setsT_len h
  have h2:=padT_len d
  have h3:1≤wS l:=by
   have:=wS_len l
   have:0<l.length:=List.length_pos_iff.2 hne
   omega
  simp only[List.length_append,List.length_cons,List.length_nil]
  omega
theorem restT_len {d:Nat}(hd:d≤40) {e:E}(h:TE e):(restT d e).length≤300*wE e:=by
 unfold restT
 split
 ·simp
 ·rename_i b o a l r
  have h1:=exprT_len h 0
  have h2:=padT_len d
  have h3:1≤wE (.node b o a l r):=by rw[wE];omega
  simp only[List.length_append,List.length_cons,List.length_nil]
  omega
theorem wlT_len {d:Nat}(hd:d≤40) {y:Wy}(h:TW y):(wlT d y).length≤300*wW y:=by
 have h1:=wayT_len h
 have h2:=padT_len d
 unfold wlT wW
 simp only[List.length_append,List.length_cons,List.length_nil]
 omega
theorem oneRegT_len {st:ρ->Nat->Str}{d:Nat}(hd:d≤40) {r:List ρ}(h:∀x∈r,(st x (d+1)).length≤300*f x):(oneRegT st d r).length≤300*wR f r:=by
 have h1:=flatMap_len (fun x=>st x (d+1)) f 300 r h
 have h2:=padT_len d
 unfold oneRegT wR
 simp only[List.length_append,List.length_cons,List.length_nil]
 omega
theorem regT_len {st:ρ->Nat->Str}{d:Nat}(hd:d≤40) {l:List (List ρ)}(h:∀r∈l,∀x∈r,(st x (d+1)).length≤300*f x):(regT st l d).length≤300*sumW (wR f) l:=
 flatMap_len (oneRegT st d) (wR f) 300 l (fun r hr=>oneRegT_len hd (h r hr))
theorem stT_len {st:ρ->Nat->Str}{d:Nat}(hd:d+1≤40) {s:StF ρ}(h:TStF T s) (hx:∀x,T x->(st x (d+1+1)).length≤300*f x):(stT (regT st) s d).length≤300*wStF f s:=by
 obtain ⟨h0,h1,h2,h3,h4,h5,h6⟩:=h
 have e1:=momT_len hd (word:=[101,110,116,114,121,32]) (by simp) h1
 have e2:=momT_len hd (word:=[100,117,114,105,110,103,32]) (by simp) h2
 have e3:=momT_len hd (word:=[101,120,105,116,32]) (by simp) h3
 have e4:=restT_len hd h4
 have e5:=flatMap_len (wlT (d+1)) wW 300 s.ways (fun y hy=>wlT_len hd (h5 y hy))
 have e6:=regT_len (st:=st) hd (fun r hr x hxr=>hx x (h6 r hr x hxr))
 have p:=padT_len d
 have hin:(inT (regT st) s (d+1)).length≤300*(wS s.enter+wS s.during+wS s.leave+wE s.rests+sumW wW s.ways+sumW (wR f) s.regions):=by
  rw[show inT (regT st) s (d+1)=momT (d+1) [101,110,116,114,121,32] s.enter++momT (d+1) [100,117,114,105,110,103,32] s.during++momT (d+1) [101,120,105,116,32] s.leave++restT (d+1) s.rests++s.ways.flatMap (wlT (d+1))++regT st s.regions (d+1) from rfl]
  simp only[List.length_append]
  omega
 have hh:(headT s d).length≤2*d+32:=by
  unfold headT
  have a1:(if s.first then ([105,110,105,116,105,97,108,32]:Str) else []).length≤8:=by split<;>simp
  have a2:(if s.last then ([102,105,110,97,108,32]:Str) else []).length≤6:=by split<;>simp
  simp only[List.length_append,List.length_cons,List.length_nil]
  omega
 unfold stT wStF
 split
 ·simp only[List.length_append,List.length_cons,List.length_nil];omega
 ·simp only[List.length_append,List.length_cons,List.length_nil];omega
end
theorem stateT_len:∀(k d:Nat),d+2*k≤40->∀(s:St k),TSt k s->(stateT k s d).length≤300*wSt k s:=by
 intro k
 induction k with
 | zero=>intro d _ s _;simp[stateT]
 | succ k ih=>
  intro d hd s h
  exact stT_len (T:=TSt k) (by omega) h (fun x hx=>ih (d+1+1) (by omega) x hx)
section
variable {L:List Lx.Tok}{ρ:Type}
def DR (L:List Lx.Tok) (T:ρ->Prop) (f:ρ->Nat) (reg:Nat->Nat->Except F (List ρ×Nat×Nat)):Prop:=∀c i l c' j,reg c i=.ok (l,c',j)->(∀x∈l,T x)/\i<j/\wR f l≤j-i/\j≤L.length
theorem semi_w {i m:Nat}(h:semi L i=.ok m):m=i+1/\m≤L.length:=by
 unfold semi at h
 split at h
 ·rename_i ht
  have:=tx_lt ht (by simp[kSemi])
  injection h with h;omega
 ·exact absurd h (by simp)
theorem leadOf_le {s:Str}{k:Nat}(h:leadOf s=some k):k≤2:=by
 unfold leadOf at h
 split at h
 ·injection h with h;omega
 ·split at h
  ·injection h with h;omega
  ·split at h
   ·injection h with h;omega
   ·exact absurd h (by simp)
variable {T:ρ->Prop}{f:ρ->Nat}{reg:Nat->Nat->Except F (List ρ×Nat×Nat)}
theorem TS_nil:TS []:=fun a ha=>absurd ha (by simp)
theorem part_w (hL:Wf L) (hr:DR L T f reg) {s s':StF ρ}{c i c' j:Nat}(h:part L ρ reg s c i=.ok (some (s',c',j))) (hs:TStF T s):TStF T s'/\i<j/\wStF f s'≤wStF f s+(j-i)/\j≤L.length:=by
 obtain ⟨h0,h1,h2,h3,h4,h5,h6⟩:=hs
 rw[part] at h
 split at h
 ·rename_i k hk
  split at h
  ·exact absurd h (by simp)
  ·rename_i y m hy
   obtain ⟨y1,y2,y3,y4⟩:=way_w hL (leadOf_le hk) hy
   injection h with h;injection h with h;injection h with e1 h;injection h with e2 e3
   subst e1;subst e2;subst e3
   refine ⟨⟨h0,h1,h2,h3,h4,fun z hz=>(List.mem_append.1 hz).elim (h5 z) (fun hz=>by rw[List.mem_singleton.1 hz];exact y1),h6⟩,by omega,?_,y4⟩
   have:=sumW_append wW s.ways [y]
   rw[sumW_one] at this
   simp only[wStF]
   omega
 ·split at h
  ·split at h
   ·exact absurd h (by simp)
   ·rename_i l c1 m hy
    obtain ⟨y1,y2,y3,y4⟩:=hr _ _ _ _ _ hy
    injection h with h;injection h with h;injection h with e1 h;injection h with e2 e3
    subst e1;subst e2;subst e3
    refine ⟨⟨h0,h1,h2,h3,h4,h5,fun z hz=>(List.mem_append.1 hz).elim (h6 z) (fun hz=>by rw[List.mem_singleton.1 hz];exact y1)⟩,by omega,?_,y4⟩
    have:=sumW_append (wR f) s.regions [l]
    rw[sumW_one] at this
    simp only[wStF]
    omega
  ·split at h
   ·split at h
    ·exact absurd h (by simp)
    ·rename_i l m hy
     obtain ⟨q1,q2,q3⟩:=sets_w hL _ _ _ _ _ hy TS_nil
     rw[show wS []=0 from rfl] at q3
     split at h
     ·exact absurd h (by simp)
     ·rename_i m2 hm
      have hm':=semi_w hm
      injection h with h;injection h with h;injection h with e1 h;injection h with e2 e3
      subst e1;subst e2;subst e3
      refine ⟨⟨h0,h1.app q1,h2,h3,h4,h5,h6⟩,by omega,?_,hm'.2⟩
      have:=wS_append s.enter l
      simp only[wStF]
      omega
   ·split at h
    ·split at h
     ·exact absurd h (by simp)
     ·rename_i l m hy
      obtain ⟨q1,q2,q3⟩:=sets_w hL _ _ _ _ _ hy TS_nil
      rw[show wS []=0 from rfl] at q3
      split at h
      ·exact absurd h (by simp)
      ·rename_i m2 hm
       have hm':=semi_w hm
       injection h with h;injection h with h;injection h with e1 h;injection h with e2 e3
       subst e1;subst e2;subst e3
       refine ⟨⟨h0,h1,h2.app q1,h3,h4,h5,h6⟩,by omega,?_,hm'.2⟩
       have:=wS_append s.during l
       simp only[wStF]
       omega
    ·split at h
     ·split at h
      ·exact absurd h (by simp)
      ·rename_i l m hy
       obtain ⟨q1,q2,q3⟩:=sets_w hL _ _ _ _ _ hy TS_nil
       rw[show wS []=0 from rfl] at q3
       split at h
       ·exact absurd h (by simp)
       ·rename_i m2 hm
        have hm':=semi_w hm
        injection h with h;injection h with h;injection h with e1 h;injection h with e2 e3
        subst e1;subst e2;subst e3
        refine ⟨⟨h0,h1,h2,h3.app q1,h4,h5,h6⟩,by omega,?_,hm'.2⟩
        have:=wS_append s.leave l
        simp only[wStF]
        omega
     ·split at h
      ·split at h
       ·rename_i he
        split at h
        ·exact absurd h (by simp)
        ·rename_i e m hy
         obtain ⟨q1,q2,q3⟩:=expr_w hL _ _ _ hy
         split at h
         ·exact absurd h (by simp)
         ·rename_i m2 hm
          have hm':=semi_w hm
          injection h with h;injection h with h;injection h with e1 h;injection h with e2 e3
          subst e1;subst e2;subst e3
          refine ⟨⟨h0,h1,h2,h3,q1,h5,h6⟩,by omega,?_,hm'.2⟩
          simp only[wStF]
          omega
       ·exact absurd h (by simp)
      ·exact absurd h (by simp)
theorem parts_w (hL:Wf L) (hr:DR L T f reg):∀(n:Nat) (s:StF ρ) (c i:Nat) (s':StF ρ) (c' j:Nat),parts L ρ reg n s c i=.ok (s',c',j)->TStF T s->i≤L.length->TStF T s'/\i≤j/\wStF f s'≤wStF f s+(j-i)/\j≤L.length:=by
 intro n
 induction n with
 | zero=>
  intro s c i s' c' j h hs hi
  rw[parts] at h
  injection h with h;injection h with e1 h;injection h with e2 e3
  subst e1;subst e2;subst e3
  exact ⟨hs,Nat.le_refl _,by omega,hi⟩
 | succ n ih=>
  intro s c i s' c' j h hs hi
  rw[parts] at h
  split at h
  ·exact absurd h (by simp)
  ·split at h
   ·rename_i ht
    have:=tx_lt ht (by simp[kShut])
    injection h with h;injection h with e1 h;injection h with e2 e3
    subst e1;subst e2;subst e3
    exact ⟨hs,by omega,by omega,by omega⟩
   ·exact absurd h (by simp)
  ·rename_i s1 c1 m hp
   obtain ⟨p1,p2,p3,p4⟩:=part_w hL hr hp hs
   obtain ⟨q1,q2,q3,q4⟩:=ih _ _ _ _ _ _ h p1 p4
   exact ⟨q1,by omega,by omega,q4⟩
theorem state_w (hL:Wf L) (hr:DR L T f reg) {fi la:Bool}{c i c' j:Nat}{s:StF ρ}(h:state L ρ reg fi la c i=.ok (s,c',j)):TStF T s/\i<j/\wStF f s≤j-i/\j≤L.length:=by
 rw[state] at h
 split at h
 ·split at h
  ·exact absurd h (by simp)
  ·split at h
   ·exact absurd h (by simp)
   ·rename_i nm' hn
    have hz:TStF T (⟨nm',fi,la,[],[],[],.nil,[],[]⟩:StF ρ):=⟨nm_len hn,TS_nil,TS_nil,TS_nil,trivial,fun y hy=>absurd hy (by simp),fun r hr=>absurd hr (by simp)⟩
    have hw:wStF f (⟨nm',fi,la,[],[],[],.nil,[],[]⟩:StF ρ)=1:=rfl
    split at h
    ·rename_i ht
     have:=tx_lt ht (by simp[kSemi])
     injection h with h;injection h with e1 h;injection h with e2 e3
     subst e1;subst e2;subst e3
     exact ⟨hz,by omega,by omega,by omega⟩
    ·split at h
     ·rename_i ht
      have:=tx_lt ht (by simp[kOpen])
      obtain ⟨q1,q2,q3,q4⟩:=parts_w hL hr _ _ _ _ _ _ _ h hz (by omega)
      exact ⟨q1,by omega,by omega,q4⟩
     ·exact absurd h (by simp)
 ·exact absurd h (by simp)
theorem states_w (hL:Wf L) (hr:DR L T f reg):∀(n:Nat) (l:List (StF ρ)) (c i:Nat) (l':List (StF ρ)) (c' j:Nat),states L ρ reg n l c i=.ok (l',c',j)->(∀x∈l,TStF T x)->i≤L.length->(∀x∈l',TStF T x)/\i≤j/\sumW (wStF f) l'≤sumW (wStF f) l+(j-i)/\j≤L.length:=by
 intro n
 induction n with
 | zero=>
  intro l c i l' c' j h hl hi
  rw[states] at h
  injection h with h;injection h with e1 h;injection h with e2 e3
  subst e1;subst e2;subst e3
  exact ⟨hl,Nat.le_refl _,by omega,hi⟩
 | succ n ih=>
  intro l c i l' c' j h hl hi
  rw[states] at h
  split at h
  ·split at h
   ·exact absurd h (by simp)
   ·rename_i s c1 m hs
    obtain ⟨p1,p2,p3,p4⟩:=state_w hL hr hs
    have o1:=opt_le L kInitial i
    have o2:=opt_le L kFinal (opt L kInitial i)
    obtain ⟨q1,q2,q3,q4⟩:=ih _ _ _ _ _ _ h (fun x hx=>(List.mem_append.1 hx).elim (hl x) (fun hx=>by rw[List.mem_singleton.1 hx];exact p1)) p4
    rw[sumW_append,sumW_one] at q3
    exact ⟨q1,by omega,by omega,q4⟩
  ·split at h
   ·rename_i ht
    have:=tx_lt ht (by simp[kShut])
    injection h with h;injection h with e1 h;injection h with e2 e3
    subst e1;subst e2;subst e3
    exact ⟨hl,by omega,by omega,by omega⟩
   ·exact absurd h (by simp)
end
theorem region_w {L:List Lx.Tok}(hL:Wf L):∀k,DR L (TSt k) (wSt k) (region L k):=by
 intro k
 induction k with
 | zero=>intro c i l c' j h;rw[region] at h;exact absurd h (by simp)
 | succ k ih=>
  intro c i l c' j h
  have h':@ite (Except F (List (StF (St k))×Nat×Nat)) (tx L i=kOpen) _ (states L (St k) (region L k) L.length [] c (i+1)) (.error (3,pl L i))=.ok (l,c',j):=h
  by_cases ht:tx L i=kOpen
  ·rw[if_pos ht] at h'
   have:=tx_lt ht (by simp[kOpen])
   obtain ⟨q1,q2,q3,q4⟩:=states_w hL ih _ _ _ _ _ _ _ h' (fun x hx=>absurd hx (by simp)) (by omega)
   refine ⟨q1,by omega,?_,q4⟩
   rw[show sumW (wStF (wSt k)) []=0 from rfl] at q3
   show 1+sumW (wStF (wSt k)) l≤_
   omega
  ·rw[if_neg ht] at h'
   exact absurd h' (by simp)
section
variable {L:List Lx.Tok}
def TD (v:Decl):Prop:=GoodDecl v/\v.name.length≤12
theorem number_w (hL:Wf L) {i n:Nat}(h:number L i=.ok n):n<1000000000000000000:=by
 unfold number at h
 split at h
 ·rename_i hk
  obtain ⟨n1,n2,n3⟩:=hL.num i hk
  have hv:=(parse_digits (tx L i) n3 n1 n2).2
  have hp:(10:Nat) ^ 18=1000000000000000000:=by decide
  rw[hp] at hv
  injection h with h
  omega
 ·exact absurd h (by simp)
theorem first_w (hL:Wf L) {i j:Nat}{n:Int}(h:first L i=.ok (n,j)):-9223372036854775808≤n/\n≤9223372036854775807/\i≤j:=by
 unfold first at h
 split at h
 ·split at h
  ·split at h
   ·exact absurd h (by simp)
   ·rename_i q hq
    have:=number_w hL hq
    injection h with h;injection h with e1 e2
    subst e1;subst e2
    exact ⟨by omega,by omega,by omega⟩
  ·split at h
   ·exact absurd h (by simp)
   ·rename_i q hq
    have:=number_w hL hq
    injection h with h;injection h with e1 e2
    subst e1;subst e2
    exact ⟨by omega,by omega,by omega⟩
 ·injection h with h;injection h with e1 e2
  subst e1;subst e2
  exact ⟨by omega,by omega,by omega⟩
theorem kindOf_le (s:Str):kindOf s≤3:=by unfold kindOf;(repeat' split)<;>omega
theorem variable_w (hL:Wf L) {k i j:Nat}{v:Decl}(h1:1≤k) (h3:k≤3) (h:variable_ L k i=.ok (v,j)):TD v/\i<j/\j≤L.length:=by
 unfold variable_ at h
 split at h
 ·exact absurd h (by simp)
 ·rename_i s hs
  split at h
  ·exact absurd h (by simp)
  ·rename_i n m hf
   obtain ⟨f1,f2,f3⟩:=first_w hL hf
   split at h
   ·rename_i ht
    have:=tx_lt ht (by simp[kSemi])
    injection h with h;injection h with e1 e2
    subst e1;subst e2
    exact ⟨⟨⟨h1,h3,f1,f2⟩,nm_len hs⟩,by omega,by omega⟩
   ·exact absurd h (by simp)
theorem items_w (hL:Wf L):∀(n:Nat) (vs:List Decl) (rs:List (List (St 6))) (c i:Nat) (vs':List Decl) (rs':List (List (St 6))) (j:Nat),items L n vs rs c i=.ok (vs',rs',j)->(∀v∈vs,TD v)->(∀r∈rs,∀x∈r,TSt 6 x)->i≤L.length->
    (∀v∈vs',TD v)/\(∀r∈rs',∀x∈r,TSt 6 x)/\i≤j/\vs'.length+sumW (wR (wSt 6)) rs'≤vs.length+sumW (wR (wSt 6)) rs+(j-i)/\j≤L.length:=by
 intro n
 induction n with
 | zero=>
  intro vs rs c i vs' rs' j h hv hr hi
  rw[items] at h
  injection h with h;injection h with e1 h;injection h with e2 e3
  subst e1;subst e2;subst e3
  exact ⟨hv,hr,Nat.le_refl _,by omega,hi⟩
 | succ n ih=>
  intro vs rs c i vs' rs' j h hv hr hi
  rw[items] at h
  split at h
  ·rename_i hk
   split at h
   ·exact absurd h (by simp)
   ·split at h
    ·exact absurd h (by simp)
    ·rename_i v m hd
     obtain ⟨p1,p2,p3⟩:=variable_w hL (by omega) (kindOf_le _) hd
     obtain ⟨q1,q2,q3,q4,q5⟩:=ih _ _ _ _ _ _ _ h (fun x hx=>(List.mem_append.1 hx).elim (hv x) (fun hx=>by rw[List.mem_singleton.1 hx];exact p1)) hr p3
     rw[List.length_append,List.length_singleton] at q4
     exact ⟨q1,q2,by omega,by omega,q5⟩
  ·split at h
   ·split at h
    ·exact absurd h (by simp)
    ·rename_i l c1 m hd
     obtain ⟨p1,p2,p3,p4⟩:=region_w hL 6 _ _ _ _ _ hd
     obtain ⟨q1,q2,q3,q4,q5⟩:=ih _ _ _ _ _ _ _ h hv (fun x hx=>(List.mem_append.1 hx).elim (hr x) (fun hx=>by rw[List.mem_singleton.1 hx];exact p1)) p4
     rw[sumW_append,sumW_one] at q4
     exact ⟨q1,q2,by omega,by omega,q5⟩
   ·split at h
    ·rename_i ht
     have:=tx_lt ht (by simp[kShut])
     injection h with h;injection h with e1 h;injection h with e2 e3
     subst e1;subst e2;subst e3
     exact ⟨hv,hr,by omega,by omega,by omega⟩
    ·exact absurd h (by simp)
theorem TSt.ok:∀(k:Nat) (s:St k),TSt k s->wSt k s≤10000->OkSt k s:=by
 intro k
 induction k with
 | zero=>intro _ _ _;trivial
 | succ k ih=>
  intro s ⟨_,h1,h2,h3,h4,h5,h6⟩ hw
  have hw':wStF (wSt k) s≤10000:=hw
  unfold wStF at hw'
  have l1:=wS_len s.enter
  have l2:=wS_len s.during
  have l3:=wS_len s.leave
  refine ⟨⟨h1.good,h2.good,h3.good,h4.good,fun y hy=>(h5 y hy).good⟩,⟨by omega,by omega,by omega⟩,fun r hr x hx=>ih x (h6 r hr x hx) ?_⟩
  have a:∀{α:Type}(g:α->Nat) (l:List α) (z:α),z∈l->g z≤sumW g l:=fun {α} g l z hz=>by
   induction l with
   | nil=>exact absurd hz (by simp)
   | cons b q ihq=>
    rw[sumW]
    rcases List.mem_cons.1 hz with rfl|hz
    ·omega
    ·have:=ihq hz;omega
  have a1:1+sumW (wSt k) r≤sumW (wR (wSt k)) s.regions:=a (wR (wSt k)) s.regions r hr
  have a2:=a (wSt k) r x hx
  omega
theorem declT_len {v:Decl}(h:TD v):(declT v).length≤300:=by
 have h1:=itoa_len v.first h.1.2.2.1 h.1.2.2.2
 have h2:=h.2
 have h3:(kindT v.kind).length≤6:=by unfold kindT;(repeat' split)<;>simp[kInput,kOutput,kVar]
 unfold declT
 split
 ·simp only[List.length_append,List.length_cons,List.length_nil];omega
 ·simp only[List.length_append,List.length_cons,List.length_nil];omega
theorem chart_w (hL:Wf L) {c:Chart}(h:chart L=.ok c):OkChart c/\(printT c).length≤1000000/\∀r∈c.regions,∀s∈r,∀least,(exprT (StF.rests s) least).length≤1000000:=by
 unfold chart at h
 split at h
 ·split at h
  ·exact absurd h (by simp)
  ·rename_i s hs
   split at h
   ·rename_i ht
    have h2:=tx_lt ht (by simp[kOpen])
    split at h
    ·exact absurd h (by simp)
    ·rename_i vs rs i hi
     obtain ⟨q1,q2,q3,q4,q5⟩:=items_w hL _ _ _ _ _ _ _ _ hi (fun v hv=>absurd hv (by simp)) (fun v hv=>absurd hv (by simp)) (by omega)
     rw[show sumW (wR (wSt 6)) []=0 from rfl,List.length_nil] at q4
     have h6:=hL.len
     split at h
     ·injection h with h
      subst h
      have a:∀{α:Type}(g:α->Nat) (l:List α) (z:α),z∈l->g z≤sumW g l:=fun {α} g l z hz=>by
       induction l with
       | nil=>exact absurd hz (by simp)
       | cons b q ihq=>
        rw[sumW]
        rcases List.mem_cons.1 hz with rfl|hz
        ·omega
        ·have:=ihq hz;omega
      have hws:∀r∈rs,∀x∈r,wSt 6 x≤601:=fun r hr x hx=>by
       have a1:1+sumW (wSt 6) r≤sumW (wR (wSt 6)) rs:=a (wR (wSt 6)) rs r hr
       have a2:=a (wSt 6) r x hx
       omega
      refine ⟨⟨fun v hv=>(q1 v hv).1,fun r hr x hx=>TSt.ok 6 x (q2 r hr x hx) (by have:=hws r hr x hx;omega)⟩,?_,?_⟩
      ·have e1:=flatMap_len declT (fun _=>1) 300 vs (fun v hv=>by have:=declT_len (q1 v hv);omega)
       have e2:=regT_len (st:=stateT 6) (f:=wSt 6) (d:=1) (by omega) (fun r hr x hx=>stateT_len 6 (1+1) (by omega) x (q2 r hr x hx))
       have e3:sumW (fun _:Decl=>1) vs=vs.length:=by
        clear q1 q4 e1 hi
        induction vs with
        | nil=>rfl
        | cons v r ih=>rw[sumW,ih,List.length_cons];omega
       have e4:=nm_len hs
       rw[e3] at e1
       unfold printT
       simp only[List.length_append,List.length_cons,List.length_nil]
       omega
      ·intro r hr x hx least
       obtain ⟨_,_,_,_,t4,_,_⟩:=q2 r hr x hx
       have b1:=exprT_len t4 least
       have b2:wStF (wSt 5) x≤601:=hws r hr x hx
       unfold wStF at b2
       omega
     ·exact absurd h (by simp)
   ·exact absurd h (by simp)
 ·exact absurd h (by simp)
end
end Px
end
end Go.Proofs.YtpogmfliojcnjaaGreatDoor
