import Derived.Test.YtpogmfliojcnjaaGreatDoorSBnd2
import Derived.Test.YtpogmfliojcnjaaGreatDoorSRrd
namespace Go.Proofs.YtpogmfliojcnjaaGreatDoor
section
namespace Px
open Go.Lib Lx
def momK (w:Str):List Asg->List Kt
 | []=>[]
 | a::r=>(1,w)::(setsK (a::r)++[(3,kSemi)])
def restK:E->List Kt
 | .nil=>[]
 | .node b o a l r=>(1,kSuspend)::(exprK (.node b o a l r) 1++[(3,kSemi)])
section
variable {ρ:Type}
def inK (regs:List (List ρ)->List Kt) (x:StF ρ):List Kt:=momK kEntry x.enter++(momK kDuring x.during++(momK kExit x.leave++(restK x.rests++(x.ways.flatMap wayK++regs x.regions))))
def headK (x:StF ρ):List Kt:=optK x.first kInitial++(optK x.last kFinal++[(1,kState),(1,x.name)])
def stK (regs:List (List ρ)->List Kt) (x:StF ρ):List Kt:=headK x++(if inK regs x=[] then [(3,kSemi)] else (3,kOpen)::(inK regs x++[(3,kShut)]))
def oneRegK (st:ρ->List Kt) (r:List ρ):List Kt:=(1,kRegion)::(3,kOpen)::(r.flatMap st++[(3,kShut)])
def regK (st:ρ->List Kt) (l:List (List ρ)):List Kt:=l.flatMap (oneRegK st)
def SStF (S:ρ->Prop) (s:StF ρ):Prop:=NameOk s.name/\SS s.enter/\SS s.during/\SS s.leave/\(s.rests=.nil\/(SE s.rests/\dpE s.rests 1≤7))/\(∀y∈s.ways,SW y)/\∀r∈s.regions,∀x∈r,S x
end
def stateK:(k:Nat)->St k->List Kt
 | 0=>fun _=>[]
 | k+1=>fun s=>stK (regK (stateK k)) s
def SSt:(k:Nat)->St k->Prop
 | 0=>fun _=>True
 | k+1=>fun s=>SStF (SSt k) s/\(k=0->StF.regions s=[])
def LX (t:Str) (ks:List Kt):Prop:=∀(v:Str) (ks':List Kt),Lexes ks' v->Lexes (ks++ks') (t++v)
theorem LX.app {t u:Str}{ks kt:List Kt}(h:LX t ks) (h':LX u kt):LX (t++u) (ks++kt):=fun v ks' hl=>by
 rw[List.append_assoc,List.append_assoc];exact h _ _ (h' _ _ hl)
theorem LX_nil:LX [] []:=fun _ _ h=>h
theorem LX_blanks {b:Str}(hb:∀c∈b,Lx.blank c=true):LX b []:=by
 induction b with
 | nil=>exact LX_nil
 | cons c r ih=>exact fun v ks' hl=>lx_blank (hb c (by simp)) (ih (fun d hd=>hb d (by simp[hd])) v ks' hl)
theorem LX_pad (d:Nat):LX (padT d) []:=LX_blanks (fun c hc=>by rw[List.eq_of_mem_replicate hc];rfl)
theorem LX_flat {α:Type}{t:α->Str}{k:α->List Kt}:∀(l:List α),(∀a∈l,LX (t a) (k a))->LX (l.flatMap t) (l.flatMap k):=by
 intro l
 induction l with
 | nil=>intro _;exact LX_nil
 | cons a r ih=>intro h;rw[List.flatMap_cons,List.flatMap_cons];exact (h a (by simp)).app (ih (fun b hb=>h b (by simp[hb])))
theorem LX_word {s:Str}(h1:∃c r,s=c::r/\alpha c=true) (h2:∀x∈s,word x=true):LX (s++[32]) [(1,s)]:=fun v ks' hl=>by
 rw[List.append_assoc];exact lx_word h1 h2 (sep_cons (by decide)) (lx_blank (by decide) hl)
theorem LX_opt {b:Bool}{s:Str}(h1:∃c r,s=c::r/\alpha c=true) (h2:∀x∈s,word x=true):LX (if b then s++[32] else []) (optK b s):=by
 cases b with
 | false=>exact LX_nil
 | true=>exact LX_word h1 h2
theorem LX_mom {d:Nat}{w:Str}(h1:∃c r,w=c::r/\alpha c=true) (h2:∀x∈w,word x=true) {l:List Asg}(h:SS l):LX (momT d (w++[32]) l) (momK w l):=by
 cases l with
 | nil=>exact LX_nil
 | cons a r=>
  intro v ks' hl
  have q:=lx_mark (t:=kSemi) (by decide) (lx_blank (c:=10) (by decide) hl)
  have q2:=setsK_lex r a h _ _ (sep_cons (c:=59) (by decide)) q
  have q3:=LX_pad d _ _ (LX_word h1 h2 _ _ q2)
  unfold momT
  rw[if_neg (by simp)]
  simpa [momK,kSemi,List.append_assoc] using q3
theorem LX_rest {d:Nat}{e:E}(h:e=.nil\/(SE e/\dpE e 1≤7)):LX (restT d e) (restK e):=by
 cases e with
 | nil=>exact LX_nil
 | node b o a l r=>
  rcases h with h|⟨h,_⟩
  ·exact absurd h (by simp)
  ·intro v ks' hl
   have q:=lx_mark (t:=kSemi) (by decide) (lx_blank (c:=10) (by decide) hl)
   have q2:=exprK_lex h 1 _ _ (sep_cons (c:=59) (by decide)) q
   rw[exprT_zero] at q2
   have q3:=LX_pad d _ _ (LX_word (s:=kSuspend) ⟨115,_,rfl,rfl⟩ (by decide) _ _ q2)
   simpa [restT,restK,kSemi,kSuspend,List.append_assoc] using q3
theorem LX_way {d:Nat}{y:Wy}(h:SW y):LX (wlT d y) (wayK y):=by
 intro v ks' hl
 have q:=LX_pad d _ _ (wayK_lex h (lx_blank (c:=10) (by decide) hl))
 simpa [wlT,List.append_assoc] using q
section
variable {ρ:Type}{st:ρ->Nat->Str}{sk':ρ->List Kt}{S:ρ->Prop}
theorem LX_regs {d:Nat}{l:List (List ρ)}(h:∀r∈l,∀x∈r,LX (st x (d+1)) (sk' x)):LX (regT st l d) (regK sk' l):=by
 refine LX_flat l (fun r hr=>?_)
 intro v ks' hl
 have q:=LX_pad d _ _ (lx_mark (t:=kShut) (by decide) (lx_blank (c:=10) (by decide) hl))
 have q2:=LX_flat (t:=fun x=>st x (d+1)) (k:=sk') r (h r hr) _ _ q
 have q3:=LX_pad d _ _ (LX_word (s:=kRegion) ⟨114,_,rfl,rfl⟩ (by decide) _ _ (lx_mark (t:=kOpen) (by decide) (lx_blank (c:=10) (by decide) q2)))
 simpa [oneRegT,oneRegK,kRegion,kOpen,kShut,List.append_assoc] using q3
theorem LX_in {d:Nat}{s:StF ρ}(h:SStF S s) (hx:∀x,S x->LX (st x (d+1)) (sk' x)):LX (inT (regT st) s d) (inK (regK sk') s):=by
 obtain ⟨_,h1,h2,h3,h4,h5,h6⟩:=h
 have q:=(LX_mom (d:=d) (w:=kEntry) ⟨101,_,rfl,rfl⟩ (by decide) h1).app ((LX_mom (d:=d) (w:=kDuring) ⟨100,_,rfl,rfl⟩ (by decide) h2).app ((LX_mom (d:=d) (w:=kExit) ⟨101,_,rfl,rfl⟩ (by decide) h3).app ((LX_rest (d:=d) h4).app ((LX_flat (t:=wlT d) (k:=wayK) s.ways (fun y hy=>LX_way (h5 y hy))).app (LX_regs (d:=d) (fun r hr x hxr=>hx x (h6 r hr x hxr)))))))
 have e:inT (regT st) s d=momT d (kEntry++[32]) s.enter++momT d (kDuring++[32]) s.during++momT d (kExit++[32]) s.leave++restT d s.rests++s.ways.flatMap (wlT d)++regT st s.regions d:=rfl
 rw[e]
 simp only[List.append_assoc]
 exact q
end
end Px
end
section
namespace Px
open Go.Lib Lx
section
variable {ρ:Type}{st:ρ->Nat->Str}{sk':ρ->List Kt}{S:ρ->Prop}
theorem inK_nil (s:StF ρ):inK (regK sk') s=[]↔(s.enter=[]/\s.during=[]/\s.leave=[]/\s.rests=.nil/\s.ways=[]/\s.regions=[]):=by
 have hm:∀w l,momK w l=[]↔l=[]:=fun w l=>by cases l<;>simp[momK]
 have hr:restK s.rests=[]↔s.rests=.nil:=by cases s.rests<;>simp[restK]
 have hw:s.ways.flatMap wayK=[]↔s.ways=[]:=by
  cases s.ways with
  | nil=>simp
  | cons y r=>simp[wayK]
 have hg:regK sk' s.regions=[]↔s.regions=[]:=by
  cases s.regions with
  | nil=>simp[regK]
  | cons y r=>simp[regK,oneRegK]
 unfold inK
 simp only[List.append_eq_nil_iff,hm,hr,hw,hg]
theorem LX_head {d:Nat}{s:StF ρ}(hn:NameOk s.name) {u:Str}{ku:List Kt}(hu:LX u ku) (hs:∀v,Sep (u++v)):LX (headT s d++u) (headK s++ku):=by
 intro v ks' hl
 have q:=LX_pad d _ _ (LX_opt (b:=s.first) (s:=kInitial) ⟨105,_,rfl,rfl⟩ (by decide) _ _ (LX_opt (b:=s.last) (s:=kFinal) ⟨102,_,rfl,rfl⟩ (by decide) _ _ (LX_word (s:=kState) ⟨115,_,rfl,rfl⟩ (by decide) _ _ (lx_word hn.1 hn.2.1 (hs v) (hu v ks' hl)))))
 simpa [headT,headK,kInitial,kFinal,kState,List.append_assoc] using q
theorem LX_st {d:Nat}{s:StF ρ}(h:SStF S s) (hx:∀x,S x->LX (st x (d+1+1)) (sk' x)):LX (stT (regT st) s d) (stK (regK sk') s):=by
 have hi:=LX_in (d:=d+1) h hx
 have he:inT (regT st) s (d+1)=[]↔inK (regK sk') s=[]:=by rw[inT_nil,inK_nil]
 unfold stT stK
 by_cases hb:inT (regT st) s (d+1)=[]
 ·rw[if_pos hb,if_pos (he.1 hb)]
  exact LX_head h.1 (fun v ks' hl=>lx_mark (t:=kSemi) (by decide) (lx_blank (c:=10) (by decide) hl)) (fun v=>sep_cons (by decide))
 ·rw[if_neg hb,if_neg (fun h'=>hb (he.2 h'))]
  refine LX_head h.1 (fun v ks' hl=>?_) (fun v=>sep_cons (by decide))
  have q:=hi _ _ (LX_pad d _ _ (lx_mark (t:=kShut) (by decide) (lx_blank (c:=10) (by decide) hl)))
  have q2:=lx_blank (c:=32) (by decide) (lx_mark (t:=kOpen) (by decide) (lx_blank (c:=10) (by decide) q))
  simpa [kOpen,kShut,List.append_assoc] using q2
end
theorem LX_state:∀(k d:Nat) (s:St k),SSt k s->LX (stateT k s d) (stateK k s):=by
 intro k
 induction k with
 | zero=>intro d s _;exact LX_nil
 | succ k ih=>intro d s h;exact LX_st (S:=SSt k) h.1 (fun x hx=>ih (d+1+1) x hx)
def declK (v:Decl):List Kt:=(1,kindT v.kind)::(1,v.name)::((if v.first≠0 then (3,kColEq)::(if v.first<0 then [(3,kMinus),(2,itoa (-v.first))] else [(2,itoa v.first)]) else [])++[(3,kSemi)])
def SD (v:Decl):Prop:=(1≤v.kind/\v.kind≤3)/\NameOk v.name/\-1000000000000000000<v.first/\v.first<1000000000000000000
theorem kind_word {k:Nat}(h:1≤k/\k≤3):(∃c r,kindT k=c::r/\alpha c=true)/\∀x∈kindT k,word x=true:=by
 have:k=1\/k=2\/k=3:=by omega
 rcases this with rfl|rfl|rfl
 ·exact ⟨⟨105,_,rfl,rfl⟩,by decide⟩
 ·exact ⟨⟨111,_,rfl,rfl⟩,by decide⟩
 ·exact ⟨⟨118,_,rfl,rfl⟩,by decide⟩
theorem itoa_neg {n:Int}(h:n<0):itoa n=45::itoa (-n):=by
 unfold itoa
 rw[if_pos h,if_neg (by omega),show n.natAbs=(-n).toNat by omega]
theorem LX_decl {v:Decl}(h:SD v):LX (declT v) (declK v):=by
 obtain ⟨h1,h2,h3,h4⟩:=h
 intro w ks' hl
 have q:=lx_mark (t:=kSemi) (by decide) (lx_blank (c:=10) (by decide) hl)
 have q1:∃u ku,u=(if v.first≠0 then [32,58,61,32]++itoa v.first else [])/\ku=(if v.first≠0 then (3,kColEq)::(if v.first<0 then [(3,kMinus),(2,itoa (-v.first))] else [(2,itoa v.first)]) else [])/\Lexes (ku++((3,kSemi)::ks')) (u++(kSemi++(10::w)))/\Sep (u++(kSemi++(10::w))):=by
  refine ⟨_,_,rfl,rfl,?_⟩
  by_cases h0:v.first≠0
  ·rw[if_pos h0,if_pos h0]
   refine ⟨?_,sep_cons (by decide)⟩
   by_cases hn:v.first<0
   ·rw[if_pos hn,itoa_neg hn]
    have z:=lx_num (n:=-v.first) (by omega) (by omega) (sep_cons (c:=59) (by decide)) q
    obtain ⟨d1,d2,_⟩:=itoa_digits (n:=-v.first) (by omega) (by omega)
    have hf:Fst (itoa (-v.first)++(kSemi++(10::w))):=by
     cases hi:itoa (-v.first) with
     | nil=>exact absurd hi d1
     | cons c r=>
      have:=d2 c (by rw[hi];simp)
      unfold Lx.digit at this
      simp only[Bool.and_eq_true,decide_eq_true_eq] at this
      exact ⟨c,_,rfl,by rintro rfl;simp at this,by rintro rfl;simp at this,by rintro rfl;simp at this⟩
    have z2:Lexes ((3,kMinus)::(2,itoa (-v.first))::(3,kSemi)::ks') (kMinus++(itoa (-v.first)++(kSemi++(10::w)))):=⟨[],_,rfl,fun c hc=>absurd hc (by simp),rd_minus hf,by decide,by decide,by decide,z⟩
    have z3:=lx_blank (c:=32) (by decide) (lx_mark (t:=kColEq) (by decide) (lx_blank (c:=32) (by decide) z2))
    simpa [kColEq,kMinus,kSemi,List.append_assoc] using z3
   ·rw[if_neg hn]
    have z:=lx_num (n:=v.first) (by omega) (by omega) (sep_cons (c:=59) (by decide)) q
    have z3:=lx_blank (c:=32) (by decide) (lx_mark (t:=kColEq) (by decide) (lx_blank (c:=32) (by decide) z))
    simpa [kColEq,kSemi,List.append_assoc] using z3
  ·rw[if_neg h0,if_neg h0]
   exact ⟨q,sep_cons (by decide)⟩
 obtain ⟨u,ku,e1,e2,q2,s2⟩:=q1
 have q3:=lx_blank (c:=32) (by decide) (lx_blank (c:=32) (by decide) (LX_word (kind_word h1).1 (kind_word h1).2 _ _ (lx_word h2.1 h2.2.1 s2 q2)))
 unfold declT declK
 rw[<-e1,<-e2]
 simpa [kSemi,List.append_assoc] using q3
def chartK (c:Chart):List Kt:=(1,kChart)::(1,c.name)::(3,kOpen)::(c.vars.flatMap declK++(regK (stateK 6) c.regions++[(3,kShut)]))
def SC (c:Chart):Prop:=NameOk c.name/\(∀v∈c.vars,SD v)/\∀r∈c.regions,∀x∈r,SSt 6 x
theorem chart_lex {c:Chart}(h:SC c):Lexes (chartK c) (printT c):=by
 obtain ⟨h1,h2,h3⟩:=h
 have z:Lexes [] ([]:Str):=fun c hc=>absurd hc (by simp)
 have q:=lx_mark (t:=kShut) (by decide) (lx_blank (c:=10) (by decide) z)
 have q2:=(LX_flat (t:=declT) (k:=declK) c.vars (fun v hv=>LX_decl (h2 v hv))) _ _ (LX_regs (st:=stateT 6) (sk':=stateK 6) (d:=1) (fun r hr x hx=>LX_state 6 (1+1) x (h3 r hr x hx)) _ _ q)
 have q3:=LX_word (s:=kChart) ⟨99,_,rfl,rfl⟩ (by decide) _ _ (lx_word h1.1 h1.2.1 (sep_cons (c:=32) (by decide)) (lx_blank (c:=32) (by decide) (lx_mark (t:=kOpen) (by decide) (lx_blank (c:=10) (by decide) q2))))
 simpa [chartK,printT,kChart,kOpen,kShut,List.append_assoc] using q3
end Px
end
section
namespace Px
open Go.Lib Lx
section
variable {L:List Tok}{ρ:Type}{reg:Nat->Nat->Except F (List ρ×Nat×Nat)}
theorem lead_of {k:Nat}(h:k≤2):leadOf (leadT k)=some k:=by
 have:k=0\/k=1\/k=2:=by omega
 rcases this with rfl|rfl|rfl<;>decide
theorem semi_again {i:Nat}(h:tx L i=kSemi):semi L i=.ok (i+1):=by unfold semi;rw[if_pos h]
theorem semi_stop:∀t,t<5->codeAt t kSemi=0:=fun t ht=>(show ∀t:Fin 5,codeAt t.val kSemi=0 by decide) ⟨t,ht⟩
theorem part_way {y:Wy}(h:SW y) {s:StF ρ}{c i:Nat}{ks:List Kt}(hL:y.sets.length≤L.length) (ha:Ats L i (wayK y++ks)):part L ρ reg s c i=.ok (some ({ s with ways:=s.ways++[y] },c,i+(wayK y).length)):=by
 have h0:=ha.left.head
 rw[part,show tx L i=leadT y.kind from h0.2,lead_of h.1]
 show (match way L y.kind (i+1) with | .error x=>_ | .ok (y,j)=>_)=_
 rw[way_again h hL ha]
theorem part_region {r:List ρ}{s:StF ρ}{c c' i j:Nat}(h0:tx L i=kRegion) (h:reg c (i+1)=.ok (r,c',j)):part L ρ reg s c i=.ok (some ({ s with regions:=s.regions++[r] },c',j)):=by
 rw[part,h0,show leadOf kRegion=none from by decide]
 show (if kRegion=kRegion then _ else _)=_
 rw[if_pos rfl,h]
theorem mom_sets {a:Asg}{r:List Asg}(h:SS (a::r)) {w:Str}{i:Nat}{ks:List Kt}(hL:(a::r).length≤L.length) (ha:Ats L i (momK w (a::r)++ks)):tx L i=w/\sets L L.length [] (i+1)=.ok (a::r,i+1+(setsK (a::r)).length)/\semi L (i+1+(setsK (a::r)).length)=.ok (i+(momK w (a::r)).length):=by
 have h0:=ha.left.head
 have h1:Ats L (i+1) (setsK (a::r)++[(3,kSemi)]):=ha.left.tail
 have h2:=h1.right.head
 have q:=sets_again r a h L.length [] (i+1) (by simp at hL;omega) h1.left (fun t _ t5=>by rw[h2.2];exact semi_stop t t5) (by rw[h2.2];decide)
 refine ⟨h0.2,q,?_⟩
 rw[semi_again h2.2]
 have:(momK w (a::r)).length=(setsK (a::r)).length+2:=by simp[momK]
 rw[this,show i+((setsK (a::r)).length+2)=i+1+(setsK (a::r)).length+1 by omega]
theorem part_enter {a:Asg}{r:List Asg}(h:SS (a::r)) {s:StF ρ}{c i:Nat}{ks:List Kt}(hL:(a::r).length≤L.length) (ha:Ats L i (momK kEntry (a::r)++ks)):part L ρ reg s c i=.ok (some ({ s with enter:=s.enter++(a::r) },c,i+(momK kEntry (a::r)).length)):=by
 obtain ⟨h0,h1,h2⟩:=mom_sets h hL ha
 rw[part,h0,show leadOf kEntry=none from by decide]
 show (if kEntry=kRegion then _ else if kEntry=kEntry then _ else _)=_
 rw[if_neg (by decide),if_pos rfl,h1]
 show (match semi L (i+1+(setsK (a::r)).length) with | .error x=>_ | .ok m=>_)=_
 rw[h2]
theorem part_during {a:Asg}{r:List Asg}(h:SS (a::r)) {s:StF ρ}{c i:Nat}{ks:List Kt}(hL:(a::r).length≤L.length) (ha:Ats L i (momK kDuring (a::r)++ks)):part L ρ reg s c i=.ok (some ({ s with during:=s.during++(a::r) },c,i+(momK kDuring (a::r)).length)):=by
 obtain ⟨h0,h1,h2⟩:=mom_sets h hL ha
 rw[part,h0,show leadOf kDuring=none from by decide]
 show (if kDuring=kRegion then _ else if kDuring=kEntry then _ else if kDuring=kDuring then _ else _)=_
 rw[if_neg (by decide),if_neg (by decide),if_pos rfl,h1]
 show (match semi L (i+1+(setsK (a::r)).length) with | .error x=>_ | .ok m=>_)=_
 rw[h2]
theorem part_leave {a:Asg}{r:List Asg}(h:SS (a::r)) {s:StF ρ}{c i:Nat}{ks:List Kt}(hL:(a::r).length≤L.length) (ha:Ats L i (momK kExit (a::r)++ks)):part L ρ reg s c i=.ok (some ({ s with leave:=s.leave++(a::r) },c,i+(momK kExit (a::r)).length)):=by
 obtain ⟨h0,h1,h2⟩:=mom_sets h hL ha
 rw[part,h0,show leadOf kExit=none from by decide]
 show (if kExit=kRegion then _ else if kExit=kEntry then _ else if kExit=kDuring then _ else if kExit=kExit then _ else _)=_
 rw[if_neg (by decide),if_neg (by decide),if_neg (by decide),if_pos rfl,h1]
 show (match semi L (i+1+(setsK (a::r)).length) with | .error x=>_ | .ok m=>_)=_
 rw[h2]
theorem part_rests {e:E}(h:SE e) (hd:dpE e 1≤7) {s:StF ρ}(hs:s.rests=.nil) {c i:Nat}{ks:List Kt}(ha:Ats L i (restK e++ks)):part L ρ reg s c i=.ok (some ({ s with rests:=e },c,i+(restK e).length)):=by
 have hK:restK e=(1,kSuspend)::(exprK e 1++[(3,kSemi)]):=by
  cases e with
  | nil=>exact absurd h (by simp[SE])
  | node b o a l r=>rfl
 rw[hK] at ha ⊢
 have h0:=ha.left.head
 have h1:Ats L (i+1) (exprK e 1++[(3,kSemi)]):=ha.left.tail
 have h2:=h1.right.head
 have q:=expr_again h hd h1.left (fun t _ t5=>by rw[h2.2];exact semi_stop t t5)
 rw[part,show tx L i=kSuspend from h0.2,show leadOf kSuspend=none from by decide]
 show (if kSuspend=kRegion then _ else if kSuspend=kEntry then _ else if kSuspend=kDuring then _ else if kSuspend=kExit then _ else if kSuspend=kSuspend then _ else _)=_
 rw[if_neg (by decide),if_neg (by decide),if_neg (by decide),if_neg (by decide),if_pos rfl,hs,q]
 show (match semi L (i+1+(exprK e 1).length) with | .error x=>_ | .ok m=>_)=_
 rw[semi_again h2.2]
 simp only[List.length_cons,List.length_append,List.length_nil]
 rw[show i+1+(exprK e 1).length+1=i+((exprK e 1).length+(0+1)+1) by omega]
end
end Px
end
section
namespace Px
open Go.Lib Lx
section
variable {L:List Tok}{ρ:Type}{reg:Nat->Nat->Except F (List ρ×Nat×Nat)}
theorem parts_step {s s':StF ρ}{c c' i j f:Nat}(h:part L ρ reg s c i=.ok (some (s',c',j))):parts L ρ reg (f+1) s c i=parts L ρ reg f s' c' j:=by rw[parts,h]
theorem parts_ways:∀(ys:List Wy) (s:StF ρ) (c i f:Nat) (ks:List Kt),(∀y∈ys,SW y/\y.sets.length≤L.length)->Ats L i (ys.flatMap wayK++ks)->parts L ρ reg (f+ys.length) s c i=parts L ρ reg f { s with ways:=s.ways++ys } c (i+(ys.flatMap wayK).length):=by
 intro ys
 induction ys with
 | nil=>intro s c i f ks _ _;simp
 | cons y r ih=>
  intro s c i f ks h ha
  rw[List.flatMap_cons,List.append_assoc] at ha
  obtain ⟨h1,h2⟩:=h y (by simp)
  rw[List.length_cons,<-Nat.add_assoc,parts_step (part_way h1 h2 ha),ih _ _ _ _ ks (fun z hz=>h z (by simp[hz])) ha.right]
  simp[List.append_assoc,Nat.add_assoc]
def RA (L:List Tok) (reg:Nat->Nat->Except F (List ρ×Nat×Nat)) (S:ρ->Prop) (sk':ρ->List Kt) (f:ρ->Nat):Prop:=
 ∀(r:List ρ) (c i:Nat) (ks:List Kt),(∀x∈r,S x)->c+sumW f r≤24->Ats L i ((3,kOpen)::(r.flatMap sk'++[(3,kShut)])++ks)->reg c i=.ok (r,c+sumW f r,i+((r.flatMap sk').length+2))
theorem parts_regs {S:ρ->Prop}{sk':ρ->List Kt}{g:ρ->Nat}:∀(rs:List (List ρ)) (s:StF ρ) (c i f:Nat) (ks:List Kt),(rs≠[]->RA L reg S sk' g)->(∀r∈rs,∀x∈r,S x)->c+sumW (sumW g) rs≤24->Ats L i (regK sk' rs++ks)->parts L ρ reg (f+rs.length) s c i=parts L ρ reg f { s with regions:=s.regions++rs } (c+sumW (sumW g) rs) (i+(regK sk' rs).length):=by
 intro rs
 induction rs with
 | nil=>intro s c i f ks _ _ _ _;simp[regK,sumW]
 | cons r t ih=>
  intro s c i f ks hR h hc ha
  replace hR:=hR (by simp)
  have e:regK sk' (r::t)=oneRegK sk' r++regK sk' t:=by simp[regK]
  rw[e,List.append_assoc] at ha
  rw[sumW] at hc
  have h0:=ha.left.head
  have h1:Ats L (i+1) ((3,kOpen)::(r.flatMap sk'++[(3,kShut)])++[]):=by rw[List.append_nil];exact ha.left.tail
  have q:=hR r c (i+1) [] (h r (by simp)) (by omega) h1
  have hl:(oneRegK sk' r).length=(r.flatMap sk').length+3:=by simp[oneRegK]
  rw[show i+1+((r.flatMap sk').length+2)=i+(oneRegK sk' r).length by omega] at q
  rw[List.length_cons,<-Nat.add_assoc,parts_step (part_region h0.2 q),ih _ _ _ _ ks (fun _=>hR) (fun z hz=>h z (by simp[hz])) (by omega) ha.right,e,sumW]
  simp[List.append_assoc,Nat.add_assoc]
def one01 {α:Type}(l:List α):Nat:=if l=[] then 0 else 1
theorem parts_enter {l:List Asg}(h:SS l) (hL:l.length≤L.length) (s:StF ρ) (c i f:Nat) (ks:List Kt) (ha:Ats L i (momK kEntry l++ks)):parts L ρ reg (f+one01 l) s c i=parts L ρ reg f { s with enter:=s.enter++l } c (i+(momK kEntry l).length):=by
 cases l with
 | nil=>simp[one01,momK]
 | cons a r=>rw[show one01 (a::r)=1 from by simp[one01],parts_step (part_enter h hL ha)]
theorem parts_during {l:List Asg}(h:SS l) (hL:l.length≤L.length) (s:StF ρ) (c i f:Nat) (ks:List Kt) (ha:Ats L i (momK kDuring l++ks)):parts L ρ reg (f+one01 l) s c i=parts L ρ reg f { s with during:=s.during++l } c (i+(momK kDuring l).length):=by
 cases l with
 | nil=>simp[one01,momK]
 | cons a r=>rw[show one01 (a::r)=1 from by simp[one01],parts_step (part_during h hL ha)]
theorem parts_leave {l:List Asg}(h:SS l) (hL:l.length≤L.length) (s:StF ρ) (c i f:Nat) (ks:List Kt) (ha:Ats L i (momK kExit l++ks)):parts L ρ reg (f+one01 l) s c i=parts L ρ reg f { s with leave:=s.leave++l } c (i+(momK kExit l).length):=by
 cases l with
 | nil=>simp[one01,momK]
 | cons a r=>rw[show one01 (a::r)=1 from by simp[one01],parts_step (part_leave h hL ha)]
theorem parts_rests {e:E}(h:e=.nil\/(SE e/\dpE e 1≤7)) (s:StF ρ) (hs:s.rests=.nil) (c i f:Nat) (ks:List Kt) (ha:Ats L i (restK e++ks)):parts L ρ reg (f+one01 (restK e)) s c i=parts L ρ reg f { s with rests:=e } c (i+(restK e).length):=by
 cases e with
 | nil=>
  have:({ s with rests:=.nil }:StF ρ)=s:=by rw[<-hs]
  simp[one01,restK,this]
 | node b o a l r=>
  rcases h with h|⟨h,hd⟩
  ·exact absurd h (by simp)
  ·rw[show one01 (restK (.node b o a l r))=1 from by simp[one01,restK],parts_step (part_rests h hd hs ha)]
theorem parts_shut {s:StF ρ}{c i f:Nat}(h:tx L i=kShut):parts L ρ reg (f+1) s c i=.ok (s,c,i+1):=by
 rw[parts,part_shut s c i h]
 show (if tx L i=kShut then _ else _)=_
 rw[if_pos h]
end
end Px
end
section
namespace Px
open Go.Lib Lx
section
variable {L:List Tok}{ρ:Type}{reg:Nat->Nat->Except F (List ρ×Nat×Nat)}{S:ρ->Prop}{sk':ρ->List Kt}{g:ρ->Nat}
def lines (s:StF ρ):Nat:=one01 s.enter+one01 s.during+one01 s.leave+one01 (restK s.rests)+s.ways.length+s.regions.length
def Fits (L:List Tok) (s:StF ρ):Prop:=s.enter.length≤L.length/\s.during.length≤L.length/\s.leave.length≤L.length/\(∀y∈s.ways,y.sets.length≤L.length)/\lines s+1≤L.length
def cStF (f:ρ->Nat) (s:StF ρ):Nat:=1+sumW (sumW f) s.regions
theorem parts_body {s:StF ρ}(hR:s.regions≠[]->RA L reg S sk' g) (h:SStF S s) (hf:Fits L s) (c i:Nat) (ks:List Kt) (hc:c+sumW (sumW g) s.regions≤24) (ha:Ats L i (inK (regK sk') s++((3,kShut)::ks))) :
    parts L ρ reg L.length ⟨s.name,s.first,s.last,[],[],[],.nil,[],[]⟩ c i=.ok (s,c+sumW (sumW g) s.regions,i+(inK (regK sk') s).length+1):=by
 obtain ⟨_,h1,h2,h3,h4,h5,h6⟩:=h
 obtain ⟨f1,f2,f3,f4,f5⟩:=hf
 have hz:=ha.right.head
 unfold lines at f5
 obtain ⟨f,e⟩:∃f,L.length=f+1+s.regions.length+s.ways.length+one01 (restK s.rests)+one01 s.leave+one01 s.during+one01 s.enter:=⟨L.length-1-s.regions.length-s.ways.length-one01 (restK s.rests)-one01 s.leave-one01 s.during-one01 s.enter,by omega⟩
 have hi:inK (regK sk') s++((3,kShut)::ks)=momK kEntry s.enter++(momK kDuring s.during++(momK kExit s.leave++(restK s.rests++(s.ways.flatMap wayK++(regK sk' s.regions++((3,kShut)::ks)))))):=by simp[inK,List.append_assoc]
 rw[hi] at ha
 have a1:=ha.right
 have a2:=a1.right
 have a3:=a2.right
 have a4:=a3.right
 have a5:=a4.right
 have a6:=a5.right.head
 rw[show parts L ρ reg L.length=parts L ρ reg (f+1+s.regions.length+s.ways.length+one01 (restK s.rests)+one01 s.leave+one01 s.during+one01 s.enter) from by rw[<-e]]
 rw[parts_enter h1 f1 _ c i _ _ ha,parts_during h2 f2 _ c _ _ _ a1,parts_leave h3 f3 _ c _ _ _ a2,parts_rests h4 _ rfl c _ _ _ a3,parts_ways s.ways _ c _ _ _ (fun y hy=>⟨h5 y hy,f4 y hy⟩) a4,parts_regs s.regions _ c _ _ _ hR h6 hc a5,parts_shut a6.2]
 simp[inK,Nat.add_assoc]
theorem state_again {s:StF ρ}(hR:s.regions≠[]->RA L reg S sk' g) (h:SStF S s) (hf:Fits L s) (c i:Nat) (ks:List Kt) (hc:c+cStF g s≤24) (ha:Ats L i ((1,kState)::(1,s.name)::((if inK (regK sk') s=[] then [(3,kSemi)] else (3,kOpen)::(inK (regK sk') s++[(3,kShut)]))++ks))) :
    state L ρ reg s.first s.last c i=.ok (s,c+cStF g s,i+(2+(if inK (regK sk') s=[] then [(3,kSemi)] else (3,kOpen)::(inK (regK sk') s++[(3,kShut)])).length)):=by
 have h0:=ha.head
 have h1:=ha.tail.head
 have a2:=ha.tail.tail
 unfold cStF at hc ⊢
 rw[state,if_pos h0.2,if_neg (by omega),nm_ok h.1 h1.1 h1.2]
 by_cases hb:inK (regK sk') s=[]
 ·rw[if_pos hb] at a2 ⊢
  have h2:=a2.head
  obtain ⟨e1,e2,e3,e4,e5,e6⟩:=(inK_nil s).1 hb
  show (if tx L (i+2)=kSemi then _ else _)=_
  rw[if_pos h2.2]
  have hs:s=⟨s.name,s.first,s.last,[],[],[],.nil,[],[]⟩:=by
   obtain ⟨n,fi,la,en,du,le,re,wa,rg⟩:=s
   simp only at e1 e2 e3 e4 e5 e6
   subst e1;subst e2;subst e3;subst e4;subst e5;subst e6
   rfl
  rw[<-hs,e6]
  rfl
 ·rw[if_neg hb] at a2 ⊢
  have h2:=a2.head
  show (if tx L (i+2)=kSemi then _ else if tx L (i+2)=kOpen then _ else _)=_
  rw[if_neg (by rw[show tx L (i+2)=kOpen from h2.2];decide),if_pos h2.2]
  have a3:Ats L (i+3) (inK (regK sk') s++((3,kShut)::ks)):=by
   have:=a2.tail
   simpa [List.append_assoc] using this
  rw[parts_body hR h hf (c+1) (i+3) ks (by omega) a3]
  simp only[List.length_cons,List.length_append,List.length_nil]
  rw[show c+1+sumW (sumW g) s.regions=c+(1+sumW (sumW g) s.regions) by omega,show i+3+(inK (regK sk') s).length+1=i+(2+((inK (regK sk') s).length+(0+1)+1)) by omega]
end
end Px
end
section
namespace Px
open Go.Lib Lx
section
variable {L:List Tok}{ρ:Type}{reg:Nat->Nat->Except F (List ρ×Nat×Nat)}{S:ρ->Prop}{sk':ρ->List Kt}{g:ρ->Nat}
theorem opt_at {b:Bool}{s:Str}{i:Nat}{x:Kt}{r:List Kt}(ha:Ats L i (optK b s++(x::r))) (hx:x.2≠s):opt L s i=i+(optK b s).length/\decide (tx L i=s)=b:=by
 cases b with
 | true=>have:=ha.head;exact ⟨opt_yes this.2,decide_eq_true this.2⟩
 | false=>
  have:=ha.head
  have hne:tx L i≠s:=by rw[this.2];exact hx
  exact ⟨opt_no hne,decide_eq_false hne⟩
theorem states_again:∀(r:List (StF ρ)) (f:Nat) (l0:List (StF ρ)) (c i:Nat) (ks:List Kt),(∀x∈r,SStF S x/\Fits L x/\(x.regions≠[]->RA L reg S sk' g))->r.length<f->c+sumW (cStF g) r≤24->Ats L i (r.flatMap (stK (regK sk'))++((3,kShut)::ks))->
    states L ρ reg f l0 c i=.ok (l0++r,c+sumW (cStF g) r,i+(r.flatMap (stK (regK sk'))).length+1):=by
 intro r
 induction r with
 | nil=>
  intro f l0 c i ks _ hf _ ha
  obtain ⟨f,rfl⟩:∃f',f=f'+1:=⟨f-1,by omega⟩
  have h0:tx L i=kShut:=ha.head.2
  rw[states,h0,if_neg (by decide),if_pos rfl]
  simp[sumW]
 | cons s t ih=>
  intro f l0 c i ks h hf hc ha
  obtain ⟨f,rfl⟩:∃f',f=f'+1:=⟨f-1,by omega⟩
  obtain ⟨h1,h2,h3⟩:=h s (by simp)
  rw[sumW] at hc
  obtain ⟨B,hB⟩:∃B,B=(if inK (regK sk') s=[] then [(3,kSemi)] else (3,kOpen)::(inK (regK sk') s++[(3,kShut)])):=⟨_,rfl⟩
  have e:(s::t).flatMap (stK (regK sk'))++((3,kShut)::ks)=optK s.first kInitial++(optK s.last kFinal++((1,kState)::(1,s.name)::(B++(t.flatMap (stK (regK sk'))++((3,kShut)::ks))))):=by
   rw[List.flatMap_cons,stK,headK,hB];simp[List.append_assoc]
  have el:((s::t).flatMap (stK (regK sk'))).length=(optK s.first kInitial).length+(optK s.last kFinal).length+(2+B.length)+(t.flatMap (stK (regK sk'))).length:=by
   rw[List.flatMap_cons,stK,headK,<-hB];simp;omega
  rw[e] at ha
  have n1:opt L kInitial i=i+(optK s.first kInitial).length/\decide (tx L i=kInitial)=s.first:=by
   cases hl:s.last with
   | true=>rw[hl] at ha;exact opt_at ha (by decide)
   | false=>rw[hl] at ha;exact opt_at ha (by decide)
  have a1:=ha.right
  have n2:=opt_at (x:=(1,kState)) a1 (by decide)
  have a2:=a1.right
  have hin:tx L i=kInitial\/tx L i=kFinal\/tx L i=kState:=by
   cases hi:s.first with
   | true=>rw[hi] at ha;exact .inl ha.head.2
   | false=>
    rw[hi] at ha
    cases hl:s.last with
    | true=>rw[hl] at ha;exact .inr (.inl ha.head.2)
    | false=>rw[hl] at ha;exact .inr (.inr ha.head.2)
  have q:=state_again h3 h1 h2 c (i+(optK s.first kInitial).length+(optK s.last kFinal).length) (t.flatMap (stK (regK sk'))++((3,kShut)::ks)) (by omega) (by rw[<-hB];exact a2)
  rw[<-hB] at q
  have a3:Ats L (i+(optK s.first kInitial).length+(optK s.last kFinal).length+(2+B.length)) (t.flatMap (stK (regK sk'))++((3,kShut)::ks)):=by
   have:=a2.tail.tail.right
   rw[show i+(optK s.first kInitial).length+(optK s.last kFinal).length+(2+B.length)=i+(optK s.first kInitial).length+(optK s.last kFinal).length+1+1+B.length by omega]
   exact this
  have z:=ih f (l0++[s]) (c+cStF g s) _ ks (fun x hx=>h x (by simp[hx])) (by simp at hf;omega) (by omega) a3
  rw[states,if_pos hin,n1.2,n1.1,n2.2,n2.1,q]
  show states L ρ reg f (l0++[s]) (c+cStF g s) _=_
  rw[z,el,sumW]
  simp[Nat.add_assoc]
end
end Px
end
section
namespace Px
open Go.Lib Lx
def cSt:(k:Nat)->St k->Nat
 | 0=>fun _=>0
 | k+1=>fun s=>cStF (cSt k) s
def FSt (L:List Tok):(k:Nat)->St k->Prop
 | 0=>fun _=>True
 | k+1=>fun s=>Fits L s/\∀r∈StF.regions s,∀x∈r,FSt L k x
theorem len_flat {α:Type}{k:α->List Kt}:∀(l:List α),(∀a∈l,k a≠[])->l.length≤(l.flatMap k).length:=by
 intro l
 induction l with
 | nil=>intro _;simp
 | cons a r ih=>
  intro h
  have:=ih (fun b hb=>h b (by simp[hb]))
  have h1:0<(k a).length:=List.length_pos_iff.2 (h a (by simp))
  rw[List.flatMap_cons,List.length_append,List.length_cons];omega
theorem region_open {L:List Tok}{k c i:Nat}(h:tx L i=kOpen):(region L (k+1) c i:Except F (List (StF (St k))×Nat×Nat))=states L (St k) (region L k) L.length [] c (i+1):=by
 have h':(region L (k+1) c i:Except F (List (StF (St k))×Nat×Nat))=@ite (Except F (List (StF (St k))×Nat×Nat)) (tx L i=kOpen) _ (states L (St k) (region L k) L.length [] c (i+1)) (.error (3,pl L i)):=rfl
 exact h'.trans (if_pos h)
theorem region_again {L:List Tok}:∀k,RA L (region L (k+1)) (fun x=>SSt (k+1) x/\FSt L (k+1) x) (stateK (k+1)) (cSt (k+1)):=by
 intro k
 induction k with
 | zero=>
  intro r c i ks hS hc ha
  have h0:tx L i=kOpen:=ha.head.2
  have a1:Ats L (i+1) (r.flatMap (stateK 1)++((3,kShut)::ks)):=by have:=ha.tail;simpa [List.append_assoc] using this
  have hz:=tx_in (show tx L (i+1+(r.flatMap (stateK 1)).length)=kShut from a1.right.head.2) (by decide)
  have hl:=len_flat (k:=stateK 1) r (fun a _=>by show stK (regK (stateK 0)) a≠[];simp[stK,headK])
  have hlt:@List.length (StF (St 0)) r<L.length:=Nat.lt_of_le_of_lt hl (by omega)
  have q:=states_again (L:=L) (reg:=region L 0) (S:=fun x=>SSt 0 x/\FSt L 0 x) (sk':=stateK 0) (g:=cSt 0) r L.length [] c (i+1) ks (fun x hx=>⟨?_,(hS x hx).2.1,fun hne=>absurd ((hS x hx).1.2 rfl) hne⟩) hlt hc a1
  ·refine (region_open h0).trans (q.trans ?_)
   have e:i+1+(r.flatMap (stateK 1)).length+1=i+((r.flatMap (stateK 1)).length+2):=by omega
   exact congrArg (fun z=>(Except.ok (r,c+sumW (cSt 1) r,z):Except F (List (St 1)×Nat×Nat))) e
  ·obtain ⟨⟨b1,b2,b3,b4,b5,b6,b7⟩,_⟩:=(hS x hx).1
   exact ⟨b1,b2,b3,b4,b5,b6,fun r hr y hy=>⟨b7 r hr y hy,(hS x hx).2.2 r hr y hy⟩⟩
 | succ k ih=>
  intro r c i ks hS hc ha
  have h0:tx L i=kOpen:=ha.head.2
  have a1:Ats L (i+1) (r.flatMap (stateK (k+2))++((3,kShut)::ks)):=by have:=ha.tail;simpa [List.append_assoc] using this
  have hz:=tx_in (show tx L (i+1+(r.flatMap (stateK (k+2))).length)=kShut from a1.right.head.2) (by decide)
  have hl:=len_flat (k:=stateK (k+2)) r (fun a _=>by show stK (regK (stateK (k+1))) a≠[];simp[stK,headK])
  have hlt:@List.length (StF (St (k+1))) r<L.length:=Nat.lt_of_le_of_lt hl (by omega)
  have q:=states_again (L:=L) (reg:=region L (k+1)) (S:=fun x=>SSt (k+1) x/\FSt L (k+1) x) (sk':=stateK (k+1)) (g:=cSt (k+1)) r L.length [] c (i+1) ks (fun x hx=>⟨?_,(hS x hx).2.1,fun _=>ih⟩) hlt hc a1
  ·refine (region_open h0).trans (q.trans ?_)
   have e:i+1+(r.flatMap (stateK (k+2))).length+1=i+((r.flatMap (stateK (k+2))).length+2):=by omega
   exact congrArg (fun z=>(Except.ok (r,c+sumW (cSt (k+2)) r,z):Except F (List (St (k+2))×Nat×Nat))) e
  ·obtain ⟨⟨b1,b2,b3,b4,b5,b6,b7⟩,_⟩:=(hS x hx).1
   exact ⟨b1,b2,b3,b4,b5,b6,fun r hr y hy=>⟨b7 r hr y hy,(hS x hx).2.2 r hr y hy⟩⟩
end Px
end
section
namespace Px
open Go.Lib Lx
section
variable {L:List Tok}
def firstK (n:Int):List Kt:=if n≠0 then (3,kColEq)::(if n<0 then [(3,kMinus),(2,itoa (-n))] else [(2,itoa n)]) else []
theorem number_again {i:Nat}{n:Int}(h0:0≤n) (hk:kd L i=2) (ht:tx L i=itoa n):number L i=.ok n.toNat:=by
 have:=val_itoa h0
 unfold number
 rw[if_pos hk,ht,show val (itoa n)=n.toNat by omega]
theorem first_again {n:Int}(h1:-1000000000000000000<n) (h2:n<1000000000000000000) {i:Nat}{ks:List Kt}(ha:Ats L i (firstK n++((3,kSemi)::ks))):first L i=.ok (n,i+(firstK n).length):=by
 unfold firstK at ha ⊢
 unfold first
 by_cases h0:n≠0
 ·rw[if_pos h0] at ha ⊢
  have a0:tx L i=kColEq:=ha.head.2
  rw[if_pos a0]
  by_cases hn:n<0
  ·rw[if_pos hn] at ha ⊢
   have a1:tx L (i+1)=kMinus:=ha.tail.head.2
   have a2:=ha.tail.tail.head
   rw[if_pos a1,number_again (n:=-n) (by omega) a2.1 a2.2]
   show Except.ok (-(((-n).toNat:Nat):Int),i+3)=_
   rw[show -(((-n).toNat:Nat):Int)=n by omega]
   rfl
  ·rw[if_neg hn] at ha ⊢
   have a1:=ha.tail.head
   have hne:tx L (i+1)≠kMinus:=by
    rw[show tx L (i+1)=itoa n from a1.2]
    obtain ⟨d1,d2,_⟩:=itoa_digits (n:=n) (by omega) h2
    intro e
    have:=d2 45 (by rw[e];decide)
    exact absurd this (by decide)
   rw[if_neg hne,number_again (n:=n) (by omega) a1.1 a1.2]
   show Except.ok ((n.toNat:Int),i+2)=_
   rw[show ((n.toNat:Nat):Int)=n by omega]
   rfl
 ·rw[if_neg h0] at ha ⊢
  have a0:tx L i=kSemi:=ha.head.2
  rw[if_neg (by rw[a0];decide),show n=0 by omega]
  rfl
theorem variable_again {v:Decl}(h:SD v) {i:Nat}{ks:List Kt}(ha:Ats L i (declK v++ks)):tx L i=kindT v.kind/\variable_ L v.kind (i+1)=.ok (v,i+(declK v).length):=by
 obtain ⟨h1,h2,h3,h4⟩:=h
 have e:declK v=(1,kindT v.kind)::(1,v.name)::(firstK v.first++[(3,kSemi)]):=rfl
 rw[e] at ha ⊢
 have hl:=ha.left
 have a0:=hl.head
 have a1:=hl.tail.head
 have a2:Ats L (i+2) (firstK v.first++[(3,kSemi)]):=hl.tail.tail
 have a3:=a2.right.head
 refine ⟨a0.2,?_⟩
 unfold variable_
 rw[nm_ok h2 a1.1 a1.2,first_again h3 h4 a2]
 show (if tx L (i+2+(firstK v.first).length)=kSemi then _ else _)=_
 rw[if_pos a3.2]
 simp only[List.length_cons,List.length_append,List.length_nil]
 rw[show i+2+(firstK v.first).length+1=i+((firstK v.first).length+(0+1)+1+1) by omega]
theorem kind_of {k:Nat}(h:1≤k/\k≤3):kindOf (kindT k)=k:=by
 have:k=1\/k=2\/k=3:=by omega
 rcases this with rfl|rfl|rfl<;>decide
theorem items_vars:∀(vs vs0:List Decl) (rs:List (List (St 6))) (c i f:Nat) (ks:List Kt),(∀v∈vs,SD v)->vs0.length+vs.length≤20->Ats L i (vs.flatMap declK++ks)->items L (f+vs.length) vs0 rs c i=items L f (vs0++vs) rs c (i+(vs.flatMap declK).length):=by
 intro vs
 induction vs with
 | nil=>intro vs0 rs c i f ks _ _ _;simp
 | cons v r ih=>
  intro vs0 rs c i f ks h hn ha
  rw[List.flatMap_cons,List.append_assoc] at ha
  have hv:=h v (by simp)
  obtain ⟨a0,a1⟩:=variable_again hv ha
  rw[List.length_cons] at hn
  rw[List.length_cons,<-Nat.add_assoc,items,a0,kind_of hv.1,if_pos (by have:=hv.1;omega),if_neg (by omega),a1]
  show items L (f+r.length) (vs0++[v]) rs c (i+(declK v).length)=_
  rw[ih (vs0++[v]) rs c _ f ks (fun z hz=>h z (by simp[hz])) (by simp;omega) ha.right]
  simp[List.append_assoc,Nat.add_assoc]
theorem items_regs:∀(rs rs0:List (List (St 6))) (vs:List Decl) (c i f:Nat) (ks:List Kt),(∀r∈rs,∀x∈r,SSt 6 x/\FSt L 6 x)->c+sumW (sumW (cSt 6)) rs≤24->Ats L i (regK (stateK 6) rs++ks)->items L (f+rs.length) vs rs0 c i=items L f vs (rs0++rs) (c+sumW (sumW (cSt 6)) rs) (i+(regK (stateK 6) rs).length):=by
 intro rs
 induction rs with
 | nil=>intro rs0 vs c i f ks _ _ _;simp[regK,sumW]
 | cons r t ih=>
  intro rs0 vs c i f ks h hc ha
  have e:regK (stateK 6) (r::t)=oneRegK (stateK 6) r++regK (stateK 6) t:=by simp[regK]
  rw[e,List.append_assoc] at ha
  rw[sumW] at hc
  have h0:tx L i=kRegion:=ha.left.head.2
  have h1:Ats L (i+1) ((3,kOpen)::(r.flatMap (stateK 6)++[(3,kShut)])++[]):=by rw[List.append_nil];exact ha.left.tail
  have R6:RA L (region L 6) (fun x=>SSt 6 x/\FSt L 6 x) (stateK 6) (cSt 6):=region_again 5
  have q:=R6 r c (i+1) [] (h r (by simp)) (by omega) h1
  have hl:(oneRegK (stateK 6) r).length=(r.flatMap (stateK 6)).length+3:=by simp[oneRegK]
  rw[show i+1+((r.flatMap (stateK 6)).length+2)=i+(oneRegK (stateK 6) r).length by omega] at q
  rw[List.length_cons,<-Nat.add_assoc,items,h0,if_neg (by decide),if_pos rfl,q]
  show items L (f+t.length) vs (rs0++[r]) (c+sumW (cSt 6) r) (i+(oneRegK (stateK 6) r).length)=_
  rw[ih _ _ _ _ _ ks (fun z hz=>h z (by simp[hz])) (by omega) ha.right,e,sumW]
  simp[List.append_assoc,Nat.add_assoc]
theorem chart_again {c:Chart}(h:SC c) (hF:∀r∈c.regions,∀x∈r,FSt L 6 x) (h20:c.vars.length≤20) (h24:sumW (sumW (cSt 6)) c.regions≤24) (hl:c.vars.length+c.regions.length+1≤L.length) (ha:Ats L 0 (chartK c)) (hk:kd L (chartK c).length=4):chart L=.ok c:=by
 obtain ⟨h1,h2,h3⟩:=h
 have a0:tx L 0=kChart:=ha.head.2
 have a1:=ha.tail.head
 have a2:tx L 2=kOpen:=ha.tail.tail.head.2
 have a3:Ats L 3 (c.vars.flatMap declK++(regK (stateK 6) c.regions++[(3,kShut)])):=ha.tail.tail.tail
 have a4:=a3.right
 have a5:=a4.right.head
 obtain ⟨f,e⟩:∃f,L.length=f+1+c.regions.length+c.vars.length:=⟨L.length-1-c.regions.length-c.vars.length,by omega⟩
 have q:items L L.length [] [] 0 3=.ok (c.vars,c.regions,3+(c.vars.flatMap declK).length+(regK (stateK 6) c.regions).length+1):=by
  rw[show items L L.length=items L (f+1+c.regions.length+c.vars.length) from by rw[<-e]]
  rw[items_vars c.vars [] [] 0 3 _ _ h2 (by simpa using h20) a3,items_regs c.regions [] _ 0 _ _ _ (fun r hr x hx=>⟨h3 r hr x hx,hF r hr x hx⟩) (by omega) a4,items,a5.2,if_neg (by decide),if_neg (by decide),if_pos rfl]
  simp
 have p:3+(c.vars.flatMap declK).length+(regK (stateK 6) c.regions).length+1=(chartK c).length:=by simp[chartK];omega
 unfold chart
 rw[if_pos a0,nm_ok h1 a1.1 a1.2]
 show (if tx L 2=kOpen then _ else _)=_
 rw[if_pos a2,q]
 show (if kd L (3+(c.vars.flatMap declK).length+(regK (stateK 6) c.regions).length+1)=4 then _ else _)=_
 rw[p,if_pos hk]
end
end Px
end
end Go.Proofs.YtpogmfliojcnjaaGreatDoor
