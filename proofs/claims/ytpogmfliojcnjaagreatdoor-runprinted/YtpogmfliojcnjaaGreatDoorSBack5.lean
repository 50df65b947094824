import Derived.Test.YtpogmfliojcnjaaGreatDoorSWrF
import Derived.Test.YtpogmfliojcnjaaGreatDoorSPchart2
import Derived.Lib.ItoaLen
import Derived.Test.YtpogmfliojcnjaaGreatDoorSBack3
namespace Go.Proofs.YtpogmfliojcnjaaGreatDoor
section
open Go.RowKit Go.Lib Go.Sort Px
def Px.OkChart (c:Chart):Prop:=(∀v∈c.vars,GoodDecl v)/\∀r∈c.regions,∀s∈r,OkSt 6 s
structure PEnv (w:World):Prop where
 tabs:Tabs w
 pow:Lib.TabIs Tryz.prog w "internal/strconv.uint64pow10" .u64 Lib.pow10Tab
 big:13≤w.heap.size
theorem PEnv.up {w w':World}(h:PEnv w) (hb:Below w.heap.size w w'):PEnv w':=by
 have hg:=h.big
 exact ⟨h.tabs.keep (fun b hl=>hb.block b (by omega)),pow_keep h.pow (hb.block _ (by omega)),Nat.le_trans h.big hb.size⟩
theorem Fr.cut {B:Nat}{X:List Nat}{w w':World}(h:Fr B X w w') {B':Nat}(hB:B'≤B) (hX:∀x∈X,B'≤x):Below B' w w':=
 (h.mono (X':=[]) hB (fun x hx hl=>by have:=hX x hx;omega)).below
set_option maxRecDepth 100000 in
set_option maxHeartbeats 4000000 in
theorem print_any {A:Nat->Prop}{c:Chart}{w:World}{cv:Value}(hG:OkChart c) (h:IsChart A w c cv) (hE:PEnv w) (hlim:(printT c).length≤140737488355328) :
    Calls Tryz.prog 29 #[cv] w fun e w'=>e=.returned (.string ⟨(printT c).toArray⟩)/\Below w.heap.size w w':=by
 obtain ⟨a,n,m,b,n',m',rfl,hv,hr⟩:=h
 obtain ⟨X,hX⟩:∃X:Str,Hid (X=c.vars.flatMap declT++regT (stateT 6) c.regions 1):=⟨_,rfl⟩
 obtain ⟨PT,hPT⟩:∃PT:Str,Hid (PT=printT c):=⟨_,rfl⟩
 have HPT:Hid ([]++([99,104,97,114,116,32]++c.name)++([32,123,10]++X++padT 0++[125,10])=PT):=by
  rw[Hid,hPT.out,hX.out,printT,show padT 0=[] from rfl];simp[List.append_assoc]
 rw[<-hPT.out] at hlim ⊢
 have HL:Hid (6+c.name.length+(3+X.length+2)≤140737488355328):=by
  have h1:=congrArg List.length HPT.out
  simp[padT] at h1
  rw[Hid];omega
 clear hlim
 rw[sv]
 have e0:∃W,W=(w.alloc (.cells #[.string ⟨c.name.toArray⟩,.slice a n m,.slice b n' m'] 28)).alloc (.cells #[.slice none 0 0,.int .i64 0] 117)/\Below w.heap.size w W/\W.heap.size=w.heap.size+2/\W.heap[w.heap.size]?=some (.cells #[.string ⟨c.name.toArray⟩,.slice a n m,.slice b n' m'] 28 (0,0))/\W.heap[w.heap.size+1]?=some (.cells #[.slice none 0 0,.int .i64 0] 117 (0,0)):=by
  refine ⟨_,rfl,((Below.refl _ w).alloc (Nat.le_refl _) _).alloc (by simp) _,by simp,?_,?_⟩
  ·rw[heap_alloc_old _ _ (by simp)];exact heap_alloc_new w _
  ·have:=heap_alloc_new (w.alloc (.cells #[.string ⟨c.name.toArray⟩,.slice a n m,.slice b n' m'] 28)) (.cells #[.slice none 0 0,.int .i64 0] 117)
   simpa using this
 obtain ⟨W,hWe,hbW,hz,hcb,hwb⟩:=e0
 have hW:WAt (w.heap.size+1) W (.slice none 0 0) [] 0:=⟨hwb,World.ownsRow_nil _ _ _ _⟩
 have S0:=WSt.start hW
 have kp:Keep A (· < w.heap.size+1) w W:=fun b' _ hl=>⟨by omega,hbW.block b' hl⟩
 have hE0:WEnv (w.heap.size+1) W:=⟨(hE.up hbW).tabs,(hE.up hbW).pow,by have:=hE.big;omega⟩
 have hv0:=hv.carry kp
 have hr0:=hr.carry kp (IsStates.carry kp 6)
 have hcw:w.heap.size<w.heap.size+1:=Nat.lt_succ_self _
 have hin:∀w1 v1 w2 v2 t,WSt (w.heap.size+1) W (.slice none 0 0) w2 v2 t 0->WSt (w.heap.size+1) w2 v2 w1 v1 (t++[32,123,10]) (0+1)->(t++[32,123,10]).length+X.length≤140737488355328->Calls Tryz.prog 58 #[.pointer (some ⟨w.heap.size,0,none⟩),.pointer (some ⟨w.heap.size+1,0,none⟩)] w1 fun e w3=>e=.returned (.tuple #[])/\Wrote (w.heap.size+1) w1 v1 (t++[32,123,10]++X) (0+1) w3:=by
  intro w1 v1 w2 v2 t S2 S1 hl
  have hk2:=S2.keep
  have hk1:=S1.keep
  have hcb1:w1.heap[w.heap.size]?=_:=(hk1 _ hcw (by have:=S2.oth.size;omega)).2.trans ((hk2 _ hcw (by omega)).2.trans hcb)
  have hv1:=(hv0.carry hk2).carry hk1
  have hr1:=(hr0.carry hk2 (IsStates.carry hk2 6)).carry hk1 (IsStates.carry hk1 6)
  have hE1:=S1.env (S2.env hE0)
  rw[hX.out] at hl ⊢
  rcases hv1.look with ⟨hnil,ao,cap,e⟩|⟨g,cap,e,g2,g3,g4,g5⟩
  ·rw[e] at hcb1
   rw[hnil,List.flatMap_nil,List.nil_append] at hl ⊢
   exact print1_nil c.regions hG.2 S1.at_ hE1 hcb1 hr1 hl
  ·rw[e] at hcb1
   exact print1_some c.vars c.regions hG.1 hG.2 S1.at_ hE1 hcw hcb1 rfl g2 g4 g5 hr1 hl
 have HI:Hid _:=hin
 have HZ:Hid (W.heap.size=w.heap.size+2):=hz
 clear hin hv hr hv0 hr0 kp hG hE hz
 obtain ⟨c0,-⟩:=cel hcb 0 _ rfl
 go_enter Tryz.func29,Tryz.ntmps29
 go_upto_region 2 with fail
 rw[show (w.alloc (.cells #[.string ⟨c.name.toArray⟩,.slice a n m,.slice b n' m'] 28)).alloc (.cells #[.slice none 0 0,.int .i64 0] 117)=W from hWe.symm]
 clear hWe
 go_wp2_with (first
  | (go_at_call 56;refine (say2 hW [99,104,97,114,116,32] c.name (by have:=HL.out;simp;omega)).mono ?_;rintro _ w2 ⟨rfl,hw2⟩;obtain ⟨v2,S2⟩:=S0.step hw2)
  | (go_at_call 57;refine (braced_print (X:=X) (by omega) S2.at_ (by have:=HL.out;simp[padT];omega) (fun w3 v3 S3=>HI.out w3 v3 _ _ _ S2 S3 (by have:=HL.out;simp;omega))).mono ?_;rintro _ w4 ⟨rfl,hw4⟩;rw[HPT.out] at hw4;obtain ⟨v4,S4⟩:=S2.step hw4;have hconv:=conv_text S4.at_;have hat4:=S4.at_.1;obtain ⟨ao,cap,rfl⟩:=S4.at_.shape;obtain ⟨y4,-⟩:=cel hat4 0 _ rfl))
 go_ret
 have hz:=HZ.out
 refine ⟨rfl,hbW.trans (Fr.cut S4.oth (by omega) (fun x hx=>?_))⟩
 simp[Value.ownBlock] at hx
 omega
end
section
namespace Px
open Go.Lib
def wE:E->Nat
 | .nil=>0
 | .node _ _ _ l r=>1+wE l+wE r
def TE:E->Prop
 | .nil=>True
 | .node _ _ a l r=>1≤a.code/\a.code≤16/\(-9223372036854775808≤a.num/\a.num≤9223372036854775807)/\a.name.length≤12/\TE l/\TE r
theorem TE.good {e:E}(h:TE e):GoodE e:=by
 induction e with
 | nil=>trivial
 | node _ _ a l r ihl ihr=>
  obtain ⟨h1,h2,h3,_,h5,h6⟩:=h
  exact ⟨h1,h2,h3,ihl h5,ihr h6⟩
theorem itoa_len (n:Int) (h1:-9223372036854775808≤n) (h2:n≤9223372036854775807):(itoa n).length≤21:=by
 unfold itoa
 split
 ·have:=nDigits_le20 n.natAbs (by omega)
  rw[List.length_cons,decDigits_length];omega
 ·have:=nDigits_le20 n.toNat (by omega)
  rw[decDigits_length];omega
theorem signT_len (c:Nat):(signT c).length≤2:=by unfold signT;(repeat' split)<;>simp
theorem aheadT_len (c:Nat):(aheadT c).length≤1:=by unfold aheadT;(repeat' split)<;>simp
theorem brack_len (b:Bool) (s:Str):(brack b s).length≤s.length+2:=by unfold brack;split<;>simp
theorem exprT_len {e:E}(h:TE e):∀least,(exprT e least).length≤40*wE e:=by
 induction e with
 | nil=>intro _;simp[exprT]
 | node b o a l r ihl ihr=>
  intro least
  obtain ⟨h1,h2,h3,h4,h5,h6⟩:=h
  have il:=ihl h5
  have ir:=ihr h6
  rw[exprT,wE]
  split
  ·have:=itoa_len a.num h3.1 h3.2;omega
  ·split
   ·omega
   ·split
    ·simp;omega
    ·split
     ·have:=aheadT_len a.code
      have:=il 6
      simp;omega
     ·have hb:=brack_len (decide (line a.code<least)) (exprT l (line a.code)++[32]++signT a.code++[32]++exprT r (line a.code+1))
      have:=il (line a.code)
      have:=ir (line a.code+1)
      have:=signT_len a.code
      simp only[List.length_append,List.length_cons,List.length_nil] at hb
      omega
section
variable {L:List Lx.Tok}
def DE (f:Nat->Except F (E×Nat)):Prop:=∀i e j,f i=.ok (e,j)->TE e/\i<j/\wE e≤j-i
theorem nm_len {i:Nat}{s:Str}(h:nm L i=.ok s):s.length≤12:=by
 unfold nm at h
 split at h
 ·exact absurd h (by simp)
 ·split at h
  ·exact absurd h (by simp)
  ·injection h with h;subst h;omega
theorem codeIn_mem (l:List (Str×Nat)) (s:Str):codeIn l s=0\/∃p∈l,codeIn l s=p.2:=by
 induction l with
 | nil=>exact .inl rfl
 | cons p r ih=>
  obtain ⟨t,c⟩:=p
  rw[codeIn]
  split
  ·exact .inr ⟨(t,c),by simp,rfl⟩
  ·rcases ih with h|⟨q,hq,he⟩
   ·exact .inl h
   ·exact .inr ⟨q,by simp[hq],he⟩
theorem signs_range:∀(t:Fin 5) (p:Str×Nat),p∈signs.getD t.val []->6≤p.2/\p.2≤16:=by decide
theorem codeAt_range (t:Nat) (ht:t<5) (s:Str):codeAt t s=0\/(6≤codeAt t s/\codeAt t s≤16):=by
 rcases codeIn_mem (signs.getD t []) s with h|⟨p,hp,he⟩
 ·exact .inl h
 ·have:=signs_range ⟨t,ht⟩ p hp
  rw[codeAt,he];exact .inr this
theorem chainF_w {below:Nat->Except F (E×Nat)}{code:Str->Nat}(hb:DE below) (hc:∀s,code s=0\/(6≤code s/\code s≤16)):∀(f:Nat) (e:E) (i:Nat) (e':E) (j:Nat),chainF L below code f e i=.ok (e',j)->TE e->TE e'/\i≤j/\wE e'≤wE e+(j-i):=by
 intro f
 induction f with
 | zero=>
  intro e i e' j h he
  rw[chainF] at h
  injection h with h
  injection h with h1 h2
  subst h1;subst h2
  exact ⟨he,Nat.le_refl _,by omega⟩
 | succ f ih=>
  intro e i e' j h he
  rw[chainF] at h
  split at h
  ·injection h with h
   injection h with h1 h2
   subst h1;subst h2
   exact ⟨he,Nat.le_refl _,by omega⟩
  ·rename_i hne
   split at h
   ·exact absurd h (by simp)
   ·rename_i r m hr
    obtain ⟨t1,t2,t3⟩:=hb _ _ _ hr
    have hcc:=hc (tx L i)
    have hte:TE (eTwo (code (tx L i)) e r):=⟨show 1≤code (tx L i) by omega,show code (tx L i)≤16 by omega,⟨show (-9223372036854775808:Int)≤0 by omega,show (0:Int)≤9223372036854775807 by omega⟩,Nat.zero_le _,he,t1⟩
    obtain ⟨q1,q2,q3⟩:=ih _ _ _ _ h hte
    rw[show wE (eTwo (code (tx L i)) e r)=1+wE e+wE r from rfl] at q3
    exact ⟨q1,by omega,by omega⟩
theorem chain_w {below:Nat->Except F (E×Nat)}{code:Str->Nat}(hb:DE below) (hc:∀s,code s=0\/(6≤code s/\code s≤16)):DE (chain L below code):=by
 intro i e j h
 rw[chain] at h
 split at h
 ·exact absurd h (by simp)
 ·rename_i e0 m hr
  obtain ⟨t1,t2,t3⟩:=hb _ _ _ hr
  obtain ⟨q1,q2,q3⟩:=chainF_w hb hc _ _ _ _ _ h t1
  exact ⟨q1,by omega,by omega⟩
theorem lev_w {one:Nat->Except F (E×Nat)}(h:DE one):∀t,t≤5->DE (lev L one t):=by
 intro t
 induction t with
 | zero=>intro _;exact h
 | succ t ih=>intro ht;rw[lev];exact chain_w (ih (by omega)) (codeAt_range (4-t) (by omega))
theorem codeAhead_range (s:Str):codeAhead s=0\/codeAhead s=4\/codeAhead s=5:=by unfold codeAhead;(repeat' split)<;>simp
theorem one_w (hL:Wf L):∀k,DE (one L k):=by
 intro k
 induction k with
 | zero=>intro i e j h;rw[one] at h;exact absurd h (by simp)
 | succ k ih=>
  intro i e j h
  rw[one] at h
  split at h
  ·split at h
   ·exact absurd h (by simp)
   ·rename_i hne _ e0 m hr
    obtain ⟨t1,t2,t3⟩:=ih _ _ _ hr
    injection h with h
    injection h with h1 h2
    subst h1;subst h2
    have hcc:=codeAhead_range (tx L i)
    refine ⟨⟨show 1≤codeAhead (tx L i) by omega,show codeAhead (tx L i)≤16 by omega,⟨show (-9223372036854775808:Int)≤0 by omega,show (0:Int)≤9223372036854775807 by omega⟩,Nat.zero_le _,t1,trivial⟩,by omega,?_⟩
    rw[show wE (eOne (codeAhead (tx L i)) e0)=1+wE e0+0 from rfl]
    omega
  ·split at h
   ·split at h
    ·exact absurd h (by simp)
    ·rename_i e0 m hr
     obtain ⟨t1,t2,t3⟩:=lev_w ih 5 (Nat.le_refl _) _ _ _ hr
     split at h
     ·injection h with h
      injection h with h1 h2
      subst h1;subst h2
      exact ⟨t1,by omega,by omega⟩
     ·exact absurd h (by simp)
   ·split at h
    ·split at h
     ·split at h
      ·exact absurd h (by simp)
      ·rename_i s hs
       split at h
       ·injection h with h
        injection h with h1 h2
        subst h1;subst h2
        refine ⟨⟨show 1≤3 by omega,show 3≤16 by omega,⟨show (-9223372036854775808:Int)≤0 by omega,show (0:Int)≤9223372036854775807 by omega⟩,nm_len hs,trivial,trivial⟩,by omega,?_⟩
        rw[show wE (eName 3 s)=1+0+0 from rfl];omega
       ·exact absurd h (by simp)
     ·exact absurd h (by simp)
    ·split at h
     ·rename_i hk
      injection h with h
      injection h with h1 h2
      subst h1;subst h2
      obtain ⟨n1,n2,n3⟩:=hL.num i hk
      have hv:=(parse_digits (tx L i) n3 n1 n2).2
      have hp:(10:Nat) ^ 18=1000000000000000000:=by decide
      rw[hp] at hv
      refine ⟨⟨show 1≤1 by omega,show 1≤16 by omega,⟨show (-9223372036854775808:Int)≤(val (tx L i):Int) by omega,show (val (tx L i):Int)≤9223372036854775807 by omega⟩,Nat.zero_le _,trivial,trivial⟩,by omega,?_⟩
      rw[show wE (eNum (val (tx L i)))=1+0+0 from rfl];omega
     ·split at h
      ·exact absurd h (by simp)
      ·rename_i s hs
       injection h with h
       injection h with h1 h2
       subst h1;subst h2
       refine ⟨⟨show 1≤2 by omega,show 2≤16 by omega,⟨show (-9223372036854775808:Int)≤0 by omega,show (0:Int)≤9223372036854775807 by omega⟩,nm_len hs,trivial,trivial⟩,by omega,?_⟩
       rw[show wE (eName 2 s)=1+0+0 from rfl];omega
theorem expr_w (hL:Wf L):DE (expr L):=lev_w (one_w hL 7) 5 (Nat.le_refl _)
def wS:List Asg->Nat
 | []=>0
 | a::r=>1+wE a.e+wS r
def TS (l:List Asg):Prop:=∀a∈l,TE a.e/\a.name.length≤12
theorem wS_append (l m:List Asg):wS (l++m)=wS l+wS m:=by
 induction l with
 | nil=>simp[wS]
 | cons a r ih=>rw[List.cons_append,wS,wS,ih];omega
theorem wS_len (l:List Asg):l.length≤wS l:=by
 induction l with
 | nil=>simp
 | cons a r ih=>rw[wS,List.length_cons];omega
theorem TS.app {l m:List Asg}(h:TS l) (h':TS m):TS (l++m):=fun a ha=>(List.mem_append.1 ha).elim (h a) (h' a)
theorem TS.good {l:List Asg}(h:TS l):GoodSets l:=fun a ha=>(h a ha).1.good
theorem setT_len {a:Asg}(h:TE a.e/\a.name.length≤12):(setT a).length≤16+40*wE a.e:=by
 have:=exprT_len h.1 0
 unfold setT;simp;omega
theorem setsT_len {l:List Asg}(h:TS l):(setsT l).length≤40*wS l:=by
 cases l with
 | nil=>simp[setsT]
 | cons a r=>
  have h1:=setT_len (h a (by simp))
  have h2:(r.flatMap (fun b=>[44,32]++setT b)).length≤40*wS r:=by
   have hr:TS r:=fun b hb=>h b (by simp[hb])
   clear h h1
   induction r with
   | nil=>simp
   | cons b r ih=>
    have h1:=setT_len (hr b (by simp))
    have:=ih (fun c hc=>hr c (by simp[hc]))
    rw[List.flatMap_cons,wS,List.length_append]
    simp only[List.length_append,List.length_cons,List.length_nil]
    omega
  rw[setsT,wS,List.length_append];omega
theorem sets_w (hL:Wf L):∀(f:Nat) (l:List Asg) (i:Nat) (l':List Asg) (j:Nat),sets L f l i=.ok (l',j)->TS l->TS l'/\i≤j/\wS l'≤wS l+(j-i):=by
 intro f
 induction f with
 | zero=>
  intro l i l' j h hl
  rw[sets] at h
  injection h with h
  injection h with h1 h2
  subst h1;subst h2
  exact ⟨hl,Nat.le_refl _,by omega⟩
 | succ f ih=>
  intro l i l' j h hl
  rw[sets] at h
  split at h
  ·exact absurd h (by simp)
  ·rename_i s hs
   split at h
   ·split at h
    ·exact absurd h (by simp)
    ·rename_i e m hr
     obtain ⟨t1,t2,t3⟩:=expr_w hL _ _ _ hr
     have hl':TS (l++[⟨s,e⟩]):=hl.app (fun a ha=>by obtain rfl:=List.mem_singleton.1 ha;exact ⟨t1,nm_len hs⟩)
     have hw:wS (l++[⟨s,e⟩])=wS l+(1+wE e+0):=wS_append _ _
     split at h
     ·obtain ⟨q1,q2,q3⟩:=ih _ _ _ _ h hl'
      exact ⟨q1,by omega,by omega⟩
     ·injection h with h
      injection h with h1 h2
      subst h1;subst h2
      exact ⟨hl',by omega,by omega⟩
   ·exact absurd h (by simp)
def wW (y:Wy):Nat:=1+wE y.cond+wS y.sets
def TW (y:Wy):Prop:=y.kind≤2/\y.times≤1000/\TE y.cond/\TS y.sets/\y.to.length≤12
theorem TW.good {y:Wy}(h:TW y):GoodWay y:=⟨h.1,h.2.1,h.2.2.1.good,h.2.2.2.1.good⟩
theorem condT_len {y:Wy}(h:TW y):(condT y).length≤32+40*wE y.cond:=by
 have h1:=exprT_len h.2.2.1 0
 have h2:=itoa_len (y.times:Int) (by omega) (by have:=h.2.1;omega)
 unfold condT
 split
 ·simp
 ·rename_i b o a l r he
  rw[he] at h1 ⊢
  split
  ·simp only[List.length_append,List.length_cons,List.length_nil];omega
  ·simp only[List.length_append,List.length_cons,List.length_nil];omega
theorem wayT_len {y:Wy}(h:TW y):(wayT y).length≤90+40*(wE y.cond+wS y.sets):=by
 have h1:=condT_len h
 have h2:=setsT_len h.2.2.2.1
 have h3:(doesT y.sets).length≤4+(setsT y.sets).length:=by unfold doesT;split<;>simp;omega
 have h4:(leadT y.kind).length≤5:=by unfold leadT;(repeat' split)<;>simp[kAbort,kJoin,kGo]
 have h5:=h.2.2.2.2
 have h6:(if y.now then ([32,105,109,109,101,100,105,97,116,101]:Str) else []).length≤10:=by split<;>simp
 have h7:(if y.back then ([32,104,105,115,116,111,114,121]:Str) else []).length≤8:=by split<;>simp
 unfold wayT
 simp only[List.length_append,List.length_cons,List.length_nil]
 omega
theorem times_le {i n:Nat}(h:times L i=.ok n):n≤1000:=by
 unfold times at h
 split at h
 ·exact absurd h (by simp)
 ·split at h
  ·exact absurd h (by simp)
  ·injection h with h;omega
theorem cond_w (hL:Wf L) {i n j:Nat}{e:E}(h:cond L i=.ok (n,e,j)):n≤1000/\TE e/\i≤j/\wE e≤j-i:=by
 unfold cond at h
 split at h
 ·split at h
  ·split at h
   ·exact absurd h (by simp)
   ·rename_i n' hn
    split at h
    ·exact absurd h (by simp)
    ·rename_i e' m hr
     obtain ⟨t1,t2,t3⟩:=expr_w hL _ _ _ hr
     injection h with h
     injection h with h1 h2
     injection h2 with h2 h3
     subst h1;subst h2;subst h3
     exact ⟨times_le hn,t1,by omega,by omega⟩
  ·split at h
   ·exact absurd h (by simp)
   ·rename_i e' m hr
    obtain ⟨t1,t2,t3⟩:=expr_w hL _ _ _ hr
    injection h with h
    injection h with h1 h2
    injection h2 with h2 h3
    subst h1;subst h2;subst h3
    exact ⟨by omega,t1,by omega,by omega⟩
 ·injection h with h
  injection h with h1 h2
  injection h2 with h2 h3
  subst h1;subst h2;subst h3
  exact ⟨by omega,trivial,Nat.le_refl _,Nat.zero_le _⟩
theorem does_w (hL:Wf L) {i j:Nat}{l:List Asg}(h:does L i=.ok (l,j)):TS l/\i≤j/\wS l≤j-i:=by
 unfold does at h
 split at h
 ·obtain ⟨q1,q2,q3⟩:=sets_w hL _ _ _ _ _ h (fun a ha=>absurd ha (by simp))
  rw[show wS []=0 from rfl] at q3
  exact ⟨q1,by omega,by omega⟩
 ·injection h with h
  injection h with h1 h2
  subst h1;subst h2
  exact ⟨fun a ha=>absurd ha (by simp),Nat.le_refl _,Nat.zero_le _⟩
theorem tx_lt {i:Nat}{s:Str}(h:tx L i=s) (hs:s≠[]):i<L.length:=by
 rcases Nat.lt_or_ge i L.length with h'|h'
 ·exact h'
 ·exact absurd (by rw[<-h,tx,tok,List.getD_eq_getElem?_getD,List.getElem?_eq_none h'];rfl) hs
theorem way_w (hL:Wf L) {k i j:Nat}{y:Wy}(hk:k≤2) (h:way L k i=.ok (y,j)):TW y/\i<j/\wW y≤j-i/\j≤L.length:=by
 unfold way at h
 split at h
 ·exact absurd h (by simp)
 ·rename_i n e m hr
  obtain ⟨c1,c2,c3,c4⟩:=cond_w hL hr
  split at h
  ·exact absurd h (by simp)
  ·rename_i l q hd
   obtain ⟨d1,d2,d3⟩:=does_w hL hd
   split at h
   ·split at h
    ·exact absurd h (by simp)
    ·rename_i s hs
     split at h
     ·rename_i ht
      have:=tx_lt ht (by simp[kSemi])
      have o1:=opt_le L kImm i
      have o2:=opt_le L kHist (q+2)
      injection h with h
      injection h with h1 h2
      subst h1;subst h2
      refine ⟨⟨hk,c1,c2,d1,nm_len hs⟩,by omega,?_,by omega⟩
      show 1+wE e+wS l≤_
      omega
     ·exact absurd h (by simp)
   ·exact absurd h (by simp)
end
end Px
end
section
namespace Px
open Go.Lib Lx
def Wn (L:List Tok):Prop:=∀k,kd L k=1->(∃c r,tx L k=c::r/\alpha c=true)/\∀x∈tx L k,word x=true
theorem signs_line:∀(t:Fin 5) (p:Str×Nat),p∈signs.getD t.val []->line p.2=t.val+1:=by decide
theorem codeAt_line (t:Nat) (ht:t<5) (s:Str) (h:codeAt t s≠0):line (codeAt t s)=t+1:=by
 rcases codeIn_mem (signs.getD t []) s with h'|⟨p,hp,he⟩
 ·exact absurd h' h
 ·rw[codeAt,he];exact signs_line ⟨t,ht⟩ p hp
theorem dpE_le (e:E) (m m':Nat):dpE e m'≤1+dpE e m:=by
 cases e with
 | nil=>simp[dpE]
 | node b o a l r=>rw[dpE,dpE];(repeat' split)<;>omega
theorem dpE_mono (e:E) {m m':Nat}(h:m≤m'):dpE e m≤dpE e m':=by
 cases e with
 | nil=>simp[dpE]
 | node b o a l r=>rw[dpE,dpE];(repeat' split)<;>omega
theorem exprK_le (e:E) (m m':Nat):(exprK e m').length≤2+(exprK e m).length:=by
 cases e with
 | nil=>simp[exprK]
 | node b o a l r=>
  rw[exprK,exprK]
  (repeat' split)<;>(try simp only[brackK])<;>(repeat' split)<;>simp<;>omega
theorem exprK_mono (e:E) {m m':Nat}(h:m≤m'):(exprK e m).length≤(exprK e m').length:=by
 cases e with
 | nil=>simp[exprK]
 | node b o a l r=>
  rw[exprK,exprK]
  split
  ·simp
  ·split
   ·simp
   ·split
    ·simp
    ·split
     ·simp
     ·unfold brackK
      by_cases h1:line a.code<m
      ·rw[if_pos (by simpa using h1),if_pos (by simp;omega)];simp
      ·rw[if_neg (by simpa using h1)]
       split<;>simp<;>omega
section
variable {L:List Tok}
def DB (m k:Nat) (f:Nat->Except F (E×Nat)):Prop:=∀i e j,f i=.ok (e,j)->SE e/\dpE e m≤k/\i<j/\(exprK e m).length≤j-i
theorem nm_name (hn:Wn L) {i:Nat}{s:Str}(h:nm L i=.ok s):NameOk s:=by
 have hl:=nm_len h
 unfold nm at h
 split at h
 ·exact absurd h (by simp)
 ·rename_i hk
  split at h
  ·exact absurd h (by simp)
  ·injection h with h
   subst h
   have hk1:kd L i=1:=by
    rcases Nat.decEq (kd L i) 1 with h'|h'
    ·exact absurd (.inl h') hk
    ·exact h'
   have hk2:kw (tx L i)=false:=by
    cases hkw:kw (tx L i) with
    | false=>rfl
    | true=>exact absurd (.inr hkw) hk
   exact ⟨(hn i hk1).1,(hn i hk1).2,hk2,hl⟩
theorem two_K {q c:Nat}(h6:6≤c) (hq:line c=q) (e r:E):exprK (eTwo c e r) q=exprK e q++((3,signT c)::exprK r (q+1))/\dpE (eTwo c e r) q=max (dpE e q) (dpE r (q+1)):=by
 unfold eTwo
 rw[exprK,dpE,if_neg (by show ¬c=1;omega),if_neg (by show ¬c=2;omega),if_neg (by show ¬c=3;omega),if_neg (by show ¬(c=4\/c=5);omega),if_neg (by show ¬(c=1\/c=2\/c=3);omega),if_neg (by show ¬(c=4\/c=5);omega),if_neg (by show ¬line c<q;omega),brackK]
 rw[if_neg (by simp;omega)]
 show exprK e (line c)++(3,signT c)::exprK r (line c+1)=_/\max (dpE e (line c)) (dpE r (line c+1))=_
 rw[hq]
 exact ⟨rfl,rfl⟩
theorem chainF_b {k t:Nat}(ht:t<5) {below:Nat->Except F (E×Nat)}(hb:DB (t+2) k below):∀(f:Nat) (e:E) (i:Nat) (e':E) (j i0:Nat),chainF L below (codeAt t) f e i=.ok (e',j)->SE e->dpE e (t+1)≤k->i0<i->(exprK e (t+1)).length≤i-i0->SE e'/\dpE e' (t+1)≤k/\i≤j/\(exprK e' (t+1)).length≤j-i0:=by
 intro f
 induction f with
 | zero=>
  intro e i e' j i0 h h1 h2 h3 h4
  rw[chainF] at h
  injection h with h
  injection h with e1 e2
  subst e1;subst e2
  exact ⟨h1,h2,Nat.le_refl _,h4⟩
 | succ f ih=>
  intro e i e' j i0 h h1 h2 h3 h4
  rw[chainF] at h
  split at h
  ·injection h with h
   injection h with e1 e2
   subst e1;subst e2
   exact ⟨h1,h2,Nat.le_refl _,h4⟩
  ·rename_i hne
   split at h
   ·exact absurd h (by simp)
   ·rename_i r m hr
    obtain ⟨t1,t2,t3,t4⟩:=hb _ _ _ hr
    have hcc:=codeAt_range t ht (tx L i)
    have hli:=codeAt_line t ht (tx L i) hne
    obtain ⟨k1,k2⟩:=two_K (q:=t+1) (by omega) hli e r
    rw[show t+1+1=t+2 from rfl] at k1 k2
    obtain ⟨q1,q2,q3,q4⟩:=ih (eTwo (codeAt t (tx L i)) e r) m e' j i0 h ⟨rfl,rfl,.inr (.inr (.inr ⟨by show 6≤codeAt t (tx L i);omega,by show codeAt t (tx L i)≤16;omega,rfl,rfl,h1,t1⟩))⟩ (by rw[k2];omega) (by omega) (by rw[k1];simp;omega)
    exact ⟨q1,q2,by omega,q4⟩
theorem lev_b {k:Nat}{one:Nat->Except F (E×Nat)}(h:DB 6 k one):∀t,t≤5->DB (6-t) k (lev L one t):=by
 intro t
 induction t with
 | zero=>intro _;exact h
 | succ t ih=>
  intro ht i e j hh
  have hb:=ih (by omega)
  rw[lev,chain] at hh
  split at hh
  ·exact absurd hh (by simp)
  ·rename_i e0 m hr
   obtain ⟨t1,t2,t3,t4⟩:=hb _ _ _ hr
   have m1:=dpE_mono e0 (show 6-(t+1)≤6-t by omega)
   have m2:=exprK_mono e0 (show 6-(t+1)≤6-t by omega)
   have e5:6-(t+1)=4-t+1:=by omega
   rw[e5] at m1 m2 ⊢
   obtain ⟨q1,q2,q3,q4⟩:=chainF_b (t:=4-t) (by omega) (by rw[show 4-t+2=6-t by omega];exact hb) _ _ _ _ _ i hh t1 (by omega) t3 (by omega)
   exact ⟨q1,q2,by omega,q4⟩
theorem one_b (hL:Wf L) (hn:Wn L):∀k,DB 6 k (one L k):=by
 intro k
 induction k with
 | zero=>intro i e j h;rw[one] at h;exact absurd h (by simp)
 | succ k ih=>
  intro i e j h
  rw[one] at h
  split at h
  ·split at h
   ·exact absurd h (by simp)
   ·rename_i hne _ e0 m hr
    obtain ⟨t1,t2,t3,t4⟩:=ih _ _ _ hr
    injection h with h
    injection h with h1 h2
    subst h1;subst h2
    have hcc:=codeAhead_range (tx L i)
    have hc:codeAhead (tx L i)=4\/codeAhead (tx L i)=5:=by omega
    refine ⟨⟨rfl,rfl,.inr (.inr (.inl ⟨hc,rfl,rfl,t1,rfl⟩))⟩,?_,by omega,?_⟩
    ·rw[show dpE (eOne (codeAhead (tx L i)) e0) 6=1+dpE e0 6 from by unfold eOne;rw[dpE,if_neg (by show ¬(codeAhead (tx L i)=1\/codeAhead (tx L i)=2\/codeAhead (tx L i)=3);omega),if_pos hc]];omega
    ·rw[show exprK (eOne (codeAhead (tx L i)) e0) 6=(3,aheadT (codeAhead (tx L i)))::exprK e0 6 from by unfold eOne;rw[exprK,if_neg (by show ¬codeAhead (tx L i)=1;omega),if_neg (by show ¬codeAhead (tx L i)=2;omega),if_neg (by show ¬codeAhead (tx L i)=3;omega),if_pos hc]]
     rw[List.length_cons];omega
  ·split at h
   ·split at h
    ·exact absurd h (by simp)
    ·rename_i e0 m hr
     obtain ⟨t1,t2,t3,t4⟩:=lev_b ih 5 (Nat.le_refl _) _ _ _ hr
     split at h
     ·injection h with h
      injection h with h1 h2
      subst h1;subst h2
      have a1:=dpE_le e0 (6-5) 6
      have a2:=exprK_le e0 (6-5) 6
      exact ⟨t1,by omega,by omega,by omega⟩
     ·exact absurd h (by simp)
   ·split at h
    ·split at h
     ·split at h
      ·exact absurd h (by simp)
      ·rename_i s hs
       split at h
       ·injection h with h
        injection h with h1 h2
        subst h1;subst h2
        refine ⟨⟨rfl,rfl,.inr (.inl ⟨.inr rfl,rfl,nm_name hn hs,rfl,rfl⟩)⟩,?_,by omega,?_⟩
        ·rw[show dpE (eName 3 s) 6=1 from rfl];omega
        ·rw[show exprK (eName 3 s) 6=[(1,kPre),(3,kPar),(1,s),(3,kRap)] from rfl];simp
       ·exact absurd h (by simp)
     ·exact absurd h (by simp)
    ·split at h
     ·rename_i hk
      injection h with h
      injection h with h1 h2
      subst h1;subst h2
      obtain ⟨n1,n2,n3⟩:=hL.num i hk
      have hv:=(parse_digits (tx L i) n3 n1 n2).2
      have hp:(10:Nat) ^ 18=1000000000000000000:=by decide
      rw[hp] at hv
      refine ⟨⟨rfl,rfl,.inl ⟨rfl,by show (0:Int)≤(val (tx L i):Int);omega,by show (val (tx L i):Int)<1000000000000000000;omega,rfl,rfl,rfl⟩⟩,?_,by omega,?_⟩
      ·rw[show dpE (eNum (val (tx L i))) 6=1 from rfl];omega
      ·rw[show exprK (eNum (val (tx L i))) 6=[(2,itoa (val (tx L i)))] from rfl];simp
     ·split at h
      ·exact absurd h (by simp)
      ·rename_i s hs
       injection h with h
       injection h with h1 h2
       subst h1;subst h2
       refine ⟨⟨rfl,rfl,.inr (.inl ⟨.inl rfl,rfl,nm_name hn hs,rfl,rfl⟩)⟩,?_,by omega,?_⟩
       ·rw[show dpE (eName 2 s) 6=1 from rfl];omega
       ·rw[show exprK (eName 2 s) 6=[(1,s)] from rfl];simp
theorem expr_b (hL:Wf L) (hn:Wn L) {i j:Nat}{e:E}(h:expr L i=.ok (e,j)):SE e/\dpE e 1≤7/\i<j/\(exprK e 1).length≤j-i:=lev_b (one_b hL hn 7) 5 (Nat.le_refl _) _ _ _ h
theorem expr_again {e:E}(h:SE e) (hd:dpE e 1≤7) {i:Nat}(ha:Ats L i (exprK e 1)) (hs:Stop L 1 (i+(exprK e 1).length)):expr L i=.ok (e,i+(exprK e 1).length):=(expr_back h).1 7 1 i (by omega) (by omega) hd ha hs
end
end Px
end
section
namespace Px
open Go.Lib Lx
def setK (a:Asg):List Kt:=(1,a.name)::(3,kColEq)::exprK a.e 1
def setsK:List Asg->List Kt
 | []=>[]
 | a::r=>setK a++r.flatMap (fun b=>(3,kComma)::setK b)
theorem setsK_cons (a b:Asg) (r:List Asg):setsK (a::b::r)=setK a++((3,kComma)::setsK (b::r)):=by simp[setsK]
theorem setsT_cons (a b:Asg) (r:List Asg):setsT (a::b::r)=setT a++([44,32]++setsT (b::r)):=by simp[setsT]
def SA (a:Asg):Prop:=NameOk a.name/\SE a.e/\dpE a.e 1≤7
def SS (l:List Asg):Prop:=∀a∈l,SA a
theorem SS.app {l m:List Asg}(h:SS l) (h':SS m):SS (l++m):=fun a ha=>(List.mem_append.1 ha).elim (h a) (h' a)
def nS:List Asg->Nat
 | []=>0
 | a::r=>1+(setK a).length+nS r
theorem nS_append (l m:List Asg):nS (l++m)=nS l+nS m:=by
 induction l with
 | nil=>simp[nS]
 | cons a r ih=>rw[List.cons_append,nS,nS,ih];omega
theorem nS_len (a:Asg) (r:List Asg):(setsK (a::r)).length+1=nS (a::r):=by
 induction r generalizing a with
 | nil=>simp[setsK,nS];omega
 | cons b r ih=>rw[setsK_cons,nS,List.length_append,List.length_cons];have:=ih b;omega
theorem setK_lex {a:Asg}(h:SA a) {v:Str}{ks:List Kt}(hv:Sep v) (hl:Lexes ks v):Lexes (setK a++ks) (setT a++v):=by
 obtain ⟨⟨n1,n2,_⟩,h2,_⟩:=h
 have q:=exprK_lex h2 1 v ks hv hl
 rw[exprT_zero] at q
 have e:setT a++v=a.name++(32::(kColEq++(32::(exprT a.e 0++v)))):=by simp[setT,kColEq]
 rw[e]
 exact lx_word n1 n2 (sep_cons (by decide)) (lx_blank (by decide) (lx_mark (by decide) (lx_blank (by decide) q)))
theorem setsK_lex:∀(r:List Asg) (a:Asg),SS (a::r)->∀(v:Str) (ks:List Kt),Sep v->Lexes ks v->Lexes (setsK (a::r)++ks) (setsT (a::r)++v):=by
 intro r
 induction r with
 | nil=>
  intro a h v ks hv hl
  have e1:setsK [a]=setK a:=by simp[setsK]
  have e2:setsT [a]=setT a:=by simp[setsT]
  rw[e1,e2]
  exact setK_lex (h a (by simp)) hv hl
 | cons b r ih=>
  intro a h v ks hv hl
  have q:=ih b (fun c hc=>h c (by simp at hc ⊢;exact .inr hc)) v ks hv hl
  have q2:=setK_lex (h a (by simp)) (v:=kComma++(32::(setsT (b::r)++v))) (ks:=(3,kComma)::(setsK (b::r)++ks)) (sep_cons (by decide)) (lx_mark (by decide) (lx_blank (by decide) q))
  rw[setsK_cons,setsT_cons]
  simpa [kComma,List.append_assoc] using q2
section
variable {L:List Tok}
theorem setK_len (a:Asg):(setK a).length=2+(exprK a.e 1).length:=by simp[setK];omega
theorem colEq_stop:∀t:Fin 5,codeAt t.val kComma=0:=by decide
theorem sets_again:∀(r:List Asg) (a:Asg),SS (a::r)->∀(f:Nat) (l0:List Asg) (i:Nat),r.length<f->Ats L i (setsK (a::r))->Stop L 1 (i+(setsK (a::r)).length)->tx L (i+(setsK (a::r)).length)≠kComma->sets L f l0 i=.ok (l0++a::r,i+(setsK (a::r)).length):=by
 intro r
 induction r with
 | nil=>
  intro a h f l0 i hf ha hs hc
  obtain ⟨f,rfl⟩:∃f',f=f'+1:=⟨f-1,by omega⟩
  have e1:setsK [a]=setK a:=by simp[setsK]
  rw[e1] at ha hs hc ⊢
  obtain ⟨h1,h2,h3⟩:=h a (by simp)
  have a1:=ha.head
  have a2:=ha.tail.head
  have a3:Ats L (i+2) (exprK a.e 1):=ha.tail.tail
  rw[setK_len,show i+(2+(exprK a.e 1).length)=i+2+(exprK a.e 1).length by omega] at hs hc ⊢
  have q:=expr_again h2 h3 a3 hs
  rw[sets,nm_ok h1 a1.1 a1.2]
  show (if tx L (i+1)=kColEq then _ else _)=_
  rw[if_pos a2.2,q]
  show (if tx L (i+2+(exprK a.e 1).length)=kComma then _ else _)=_
  rw[if_neg hc]
 | cons b r ih=>
  intro a h f l0 i hf ha hs hc
  obtain ⟨f,rfl⟩:∃f',f=f'+1:=⟨f-1,by omega⟩
  rw[setsK_cons] at ha hs hc ⊢
  obtain ⟨h1,h2,h3⟩:=h a (by simp)
  have al:=ha.left
  have a1:=al.head
  have a2:=al.tail.head
  have a3:Ats L (i+2) (exprK a.e 1):=al.tail.tail
  have ar:=ha.right
  rw[setK_len] at ar
  have hk:=ar.head
  have p1:i+(2+(exprK a.e 1).length)=i+2+(exprK a.e 1).length:=by omega
  rw[p1] at ar hk
  have q:=expr_again h2 h3 a3 (fun t _ t5=>by rw[hk.2];exact colEq_stop ⟨t,t5⟩)
  have len:(setK a++(3,kComma)::setsK (b::r)).length=2+(exprK a.e 1).length+1+(setsK (b::r)).length:=by rw[List.length_append,setK_len,List.length_cons];omega
  have p2:i+(2+(exprK a.e 1).length+1+(setsK (b::r)).length)=i+2+(exprK a.e 1).length+1+(setsK (b::r)).length:=by omega
  rw[len,p2] at hs hc ⊢
  have z:=ih b (fun c hc=>h c (by simp at hc ⊢;exact .inr hc)) f (l0++[a]) (i+2+(exprK a.e 1).length+1) (by simp at hf ⊢;omega) ar.tail hs hc
  rw[sets,nm_ok h1 a1.1 a1.2]
  show (if tx L (i+1)=kColEq then _ else _)=_
  rw[if_pos a2.2,q]
  show (if tx L (i+2+(exprK a.e 1).length)=kComma then _ else _)=_
  rw[if_pos hk.2]
  show sets L f (l0++[a]) _=_
  rw[z]
  simp
theorem sets_b (hL:Wf L) (hn:Wn L):∀(f:Nat) (l:List Asg) (i:Nat) (l':List Asg) (j:Nat),sets L f l i=.ok (l',j)->SS l->SS l'/\i≤j/\nS l'≤nS l+(j-i)+1:=by
 intro f
 induction f with
 | zero=>
  intro l i l' j h hl
  rw[sets] at h
  injection h with h
  injection h with h1 h2
  subst h1;subst h2
  exact ⟨hl,Nat.le_refl _,by omega⟩
 | succ f ih=>
  intro l i l' j h hl
  rw[sets] at h
  split at h
  ·exact absurd h (by simp)
  ·rename_i s hs
   split at h
   ·split at h
    ·exact absurd h (by simp)
    ·rename_i e m hr
     obtain ⟨t1,t2,t3,t4⟩:=expr_b hL hn hr
     have hl':SS (l++[⟨s,e⟩]):=hl.app (fun a ha=>by obtain rfl:=List.mem_singleton.1 ha;exact ⟨nm_name hn hs,t1,t2⟩)
     have hw:nS (l++[⟨s,e⟩])=nS l+(1+(setK ⟨s,e⟩).length+0):=nS_append _ _
     have hk:(setK ⟨s,e⟩).length=2+(exprK e 1).length:=setK_len _
     split at h
     ·obtain ⟨q1,q2,q3⟩:=ih _ _ _ _ h hl'
      exact ⟨q1,by omega,by omega⟩
     ·injection h with h
      injection h with h1 h2
      subst h1;subst h2
      exact ⟨hl',by omega,by omega⟩
   ·exact absurd h (by simp)
end
end Px
end
end Go.Proofs.YtpogmfliojcnjaaGreatDoor
