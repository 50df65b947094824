import Derived.Test.YthieaobjdpfcoaaGreatDoorVSmall
import Derived.Test.YthieaobjdpfcoaaGreatDoorVPchart2
import Derived.Test.YthieaobjdpfcoaaGreatDoorVRreg0
import Derived.Test.YthieaobjdpfcoaaGreatDoorVPsets
import Derived.Test.YthieaobjdpfcoaaGreatDoorVPvar
import Derived.Defers
import Derived.Recover
set_option maxRecDepth 100000
set_option maxHeartbeats 4000000
namespace Go.Proofs.YthieaobjdpfcoaaGreatDoor
section
open Go.RowKit Px
theorem mJ.open {A:Nat->Prop}{w:World}{l:List bQ}{v:Value}(h:mJ A w l v) :
    ∃ad g cap,v=.slice ad l.length cap/\l.length≤maxLen/\(0<l.length->ad=some ⟨g,0,none⟩/\g<w.heap.size)/\∀(i:Nat) (d:bQ),l[i]?=some d->w.cell? ⟨g,i*3,none⟩=some (.int .i64 (d.kind:Int))/\w.cell? ⟨g,i*3+1,none⟩=some (sv d.name)/\w.cell? ⟨g,i*3+2,none⟩=some (.int .i64 d.first):=by
 obtain ⟨O,u,y⟩:=h
 obtain ⟨ad,g,cap,J,s,r,I⟩:=wU.open (k:=3) (fun a c j=>by rw[show c=_ from j];rfl) u y
 refine ⟨ad,g,cap,J,s,fun n=>⟨(r n).1,(r n).2.2⟩,fun i a D=>?_⟩
 obtain ⟨c,j,hx⟩:=I i a D
 obtain rfl:c=_:=j
 exact ⟨hx 0 _ rfl,hx 1 _ rfl,hx 2 _ rfl⟩
theorem Yl (w:World) (o o':Obj):((w.alloc o).alloc o').heap[w.heap.size+1]?=some o':=by
 have e:w.heap.size+1=(w.alloc o).heap.size:=by simp
 rw[e];exact aX _ _
structure qZ (c:fZ):Prop where
 vars:c.vars.length≤1000000
 names:∀v∈c.vars,v.name.length≤maxLen
 sts:∀r∈c.regions,∀x∈r,He 6 x
 many:gY (Y4 6) c.regions≤1000000
def Vh (o:Option (Nat×Option Nat)) (w:World) (e:Ending) (w':World):Prop:=
 Below w.heap.size w w'/\((o=none/\e=.returned .nilIface)\/(∃c,o=some (c,none)/\e=.returned (.iface 86 (.int .i64 ((c:Nat):Int))))\/∃c p g,o=some (c,some p)/\e=.returned (.iface 89 (.pointer (some ⟨g,0,none⟩)))/\w'.heap[g]?=some (.cells #[.int .i64 ((c:Nat):Int),.int .i64 ((p:Nat):Int)] 91 (0,0))/\w.heap.size≤g)
theorem Z3 (ns:List bE):∀(f i:Nat),(∀j,i≤j->j<i+f->¬eG ns (ns.getD j [])<j)->nQ ns f i=none:=by
 intro f
 induction f with
 | zero=>intro i _;rfl
 | succ f ih=>
  intro i h
  rw[nQ,if_neg (h i (aN4 _) (by omega))]
  exact ih (i+1) fun j c k=>h j (by omega) (by omega)
theorem Z2 (ns:List bE):∀(f i k:Nat),i≤k->k<i+f->eG ns (ns.getD k [])<k->(∀j,i≤j->j<k->¬eG ns (ns.getD j [])<j)->nQ ns f i=some k:=by
 intro f
 induction f with
 | zero=>intro i k r l;omega
 | succ f ih=>
  intro i k r l c h
  rw[nQ]
  by_cases e:i=k
  ·subst e;rw[if_pos c]
  ·rw[if_neg (h i (aN4 _) (by omega))]
   exact ih (i+1) k (by omega) (by omega) c fun j s n=>h j (by omega) n
theorem uH {vs:List bQ}{i:Nat}{d:bQ}(h:vs[i]?=some d):(cG vs).getD i []=d.name:=by
 rw[cG,iO,aW4,h];rfl
theorem Gl (c:fZ) (h:nQ (cG c.vars) c.vars.length 0=none) (j:c.regions≠[]):gI c=match gR (nB c.vars 6) c.regions 0 with
    | .error (e,p)=>some (e,some p)
    | .ok _=>none:=by
 unfold gI;rw[h]
 show (if c.regions=[] then _ else _)=_
 rw[if_neg j]
 cases gR (nB c.vars 6) c.regions 0 with
 | error x=>cases x;rfl
 | ok _=>rfl
theorem iU {A:Nat->Prop}{w:World}{c:fZ}{v:Value}(h:gQ A w c v) (hN:qZ c):Calls Tryz.prog 37 #[v] w (Vh (gI c) w):=by
 have bf:∀(fn:Fn) (first cap:Array Value) (w:World),(Instr.makeFunc fn first cap).run Tryz.prog w=.ok (.func fn first cap) w:=fun _ _ _ _=>rfl
 obtain ⟨a0,n0,J,a1,n1,m1,rfl,hV,hR⟩:=h
 obtain ⟨bh,gv,ba,ev,v1,v2,v3⟩:=hV.open
 injection ev with e1 e2 e3
 subst e1;subst e2;subst e3
 obtain ⟨be,gr,az,er,r1,-,-⟩:=hR.len
 injection er with e1 e2 e3
 subst e1;subst e2;subst e3
 obtain ⟨S,hS⟩:∃S,sv c.name=.string S:=⟨_,rfl⟩
 rw[hS]
 obtain ⟨M,hM⟩:∃M,Hid (c.vars.length=M):=⟨_,rfl⟩
 have ax:M≤1000000:=by rw[<-hM.out];exact hN.vars
 have ay:Hid (M=(cG c.vars).length):=by rw[Hid,cG,List.length_map];exact hM.out.symm
 have HV:Hid (∀(i:Nat) (d:bQ),c.vars[i]?=some d->w.cell? ⟨gv,i*3,none⟩=some (.int .i64 (d.kind:Int))/\w.cell? ⟨gv,i*3+1,none⟩=some (sv d.name)/\w.cell? ⟨gv,i*3+2,none⟩=some (.int .i64 d.first)):=v3
 rw[hM.out] at v2 ⊢
 have HA:Hid (0<M->a0=some ⟨gv,0,none⟩/\gv<w.heap.size):=v2
 have HR:Hid (gP A w (aM A w 6) c.regions (.slice a1 c.regions.length m1)):=hR
 have ad:Hid (qZ c):=hN
 have aj:∀i,i<M->∃d,c.vars[i]?=some d:=fun i U=>⟨c.vars[i]'(by rw[hM.out];exact U),aN3 _⟩
 have aw:Hid (∀i,i<M->((cG c.vars).getD i []).length≤maxLen):=fun i U=>by
  obtain ⟨d,hd⟩:=aj i U
  rw[uH hd]
  exact ad.out.names d (aO7 hd)
 obtain ⟨O,hO⟩:∃O,O=Obj.cells #[.string S,.slice a0 M J,.slice a1 c.regions.length m1] 47:=⟨_,rfl⟩
 have ak:(w.alloc O).heap[w.heap.size]?=some (.cells #[.string S,.slice a0 M J,.slice a1 c.regions.length m1] 47 (0,0)):=by rw[aX,hO]
 have l:=zC 67 (.inl rfl) w.heap.size (cG c.vars) M ay ax aw (w.alloc O) (fun X i hX U=>by
  obtain ⟨d,hd⟩:=aj i U
  rw[uH hd]
  exact Ra (aN hX (aF ak 1 rfl)) U (fun h=>(HA.out h).1) (aN hX (aN (aL w O) (HV.out i d hd).2.1)))
 have ac:Hid (Below w.heap.size w (w.alloc O)/\(w.alloc O).heap[w.heap.size]?=some (.cells #[.string S,.slice a0 M J,.slice a1 c.regions.length m1] 47 (0,0))):=⟨aL w O,ak⟩
 rw[hO] at l ac
 clear hV hR v1 v2 v3 hN aj hO ak hS
 obtain ⟨NR,al⟩:∃NR,Hid (c.regions.length=NR):=⟨_,rfl⟩
 rw[al.out] at l ac r1 HR ⊢
 go_enter Tryz.func37,Tryz.ntmps37
 go_upto_region 2 with (refine l.mono ?_;rintro e w1 ⟨f,rfl,⟨pb,mb,nm,rfl,am,ar⟩,hb⟩;have D:Hid ((w1.heap[pb]?=some (.cells #[.map (some mb)] 177 (0,0))/\iD w1 mb nm (jT (cG c.vars)))/\Below w.heap.size w w1/\w1.heap[w.heap.size]?=some (.cells #[.string S,.slice a0 M J,.slice a1 NR m1] 47 (0,0))):=⟨⟨am,ar⟩,aQ ac.out.1 hb,aD hb ac.out.2⟩;clear am ar hb)
 clear l
 have d1:=aF D.out.2.2 1 (u:=.slice a0 M J) rfl
 go_wp2_with fail
 clear d1
 go_loopg [15] M (fun f i wr=>∃k:Nat,f=M-k/\k≤M/\i=.int .i64 (k:Int)/\Hid (Below w1.heap.size w1 wr/\∀j,j<k->¬eG (cG c.vars) ((cG c.vars).getD j [])<j))
 case atStart=>exact ⟨0,by omega,by omega,rfl,Below.refl _ _,fun j hj=>absurd hj (by omega)⟩
 case round=>
  obtain ⟨k,rfl,hk,rfl,hr⟩:=hrel
  obtain ⟨n,ap⟩:=hr.out
  have Q:Hid (Below w1.heap.size w1 wr):=n
  have ai:Hid (∀j,j<k->¬eG (cG c.vars) ((cG c.vars).getD j [])<j):=ap
  clear hr ap
  by_cases aa:k<M
  ·obtain ⟨d,hd⟩:∃d,c.vars[k]?=some d:=⟨c.vars[k]'(by rw[hM.out];exact aa),aN3 _⟩
   have ah:=uH hd
   have ae:Below w.heap.size w wr:=aQ D.out.2.1 n
   obtain ⟨x0,x1,x2⟩:=HV.out k d hd
   have y0:=aN ae x0
   have y1:=aN ae x1
   have y2:=aN ae x2
   have bb:=ixV a0 gv M J k aa (fun h=>(HA.out h).1)
   have hlen:d.name.length≤maxLen:=ad.out.names d (aO7 hd)
   have r:=fun o=>nG (w:=wr.alloc o) (s:=d.name) (eB (aD n D.out.1.1)) ((D.out.1.2.below n).below (aL wr o)) hlen
   obtain ⟨I,hI⟩:∃I,Hid (eG (cG c.vars) ((cG c.vars).getD k [])=I):=⟨_,rfl⟩
   rw[<-ah] at r
   rw[hI.out] at r
   rw[ah] at r
   obtain ⟨T,hT⟩:∃T,sv d.name=.string T:=⟨_,rfl⟩
   rw[hT] at r y1
   have l:=r (.cells #[.int .i64 (d.kind:Int),.string T,.int .i64 d.first] 126)
   clear r x0 x1 x2 hT hlen hd ah ae n
   by_cases U:I<(k:Int)
   ·have HE:Hid (gI c=some (9,some k)):=by
     have:nQ (cG c.vars) c.vars.length 0=some k:=Z2 _ _ 0 k (by omega) (by rw[hM.out];omega) (by rw[hI.out];exact U) (fun j _ hj=>ai.out j hj)
     unfold Hid gI;rw[this]
    go_wp2_with (refine l.mono ?_;rintro e w' ⟨rfl,rfl⟩)
    go_ret
    refine ⟨aQ D.out.2.1 (aQ Q.out (aQ (aL _ _) (aL _ _))),.inr (.inr ⟨9,k,_,HE.out,rfl,Yl _ _ _,?_⟩)⟩
    have:=D.out.2.1.size
    have:=Q.out.size
    simp;omega
   ·go_wp2_with (refine l.mono ?_;rintro e w' ⟨rfl,rfl⟩)
    go_roundg (M-(k+1))
    case measure=>omega
    case rel=>
     refine ⟨k+1,rfl,by omega,by go_num,aQ Q.out (aL _ _),fun j hj=>?_⟩
     by_cases e:j=k
     ·subst e;rw[hI.out];exact U
     ·exact ai.out j (by omega)
  ·obtain rfl:k=M:=by omega
   have HT:Hid (nQ (cG c.vars) c.vars.length 0=none):=Z3 _ _ _ fun j _ hj=>ai.out j (by rw[hM.out] at hj;omega)
   have e1:=aF (aD n D.out.2.2) 1 (u:=.slice a0 k J) rfl
   have e2:=aF (aD n D.out.2.2) 2 (u:=.slice a1 NR m1) rfl
   by_cases h0:NR=0
   ·subst h0
    have HE:Hid (gI c=some (8,none)):=by
     have:c.regions=[]:=aR2.1 al.out
     unfold Hid gI;rw[HT.out,this];rfl
    clear n
    go_wp2_with fail
    go_ret
    exact ⟨aQ D.out.2.1 Q.out,.inr (.inl ⟨8,HE.out,rfl⟩)⟩
   ·have bg:¬(NR:Int)=0:=by omega
    have bc:((NR:Int)==0)=false:=by simp;omega
    have au:c.regions≠[]:=fun e=>h0 (by rw[<-al.out,e];rfl)
    have HE:Hid (gI c=_):=Gl c HT.out au
    obtain ⟨O,hO⟩:∃O,O=Obj.cells #[.slice a0 k J,.func (.func 112) #[] #[.pointer (some ⟨pb,0,none⟩)],.int .i64 0] 129:=⟨_,rfl⟩
    have Y:Below w.heap.size w (wr.alloc O):=aQ D.out.2.1 (aQ Q.out (aL wr O))
    have lp:=aB (aD n D.out.1.1)
    have lm:=(D.out.1.2.below n).lt
    have lw:w.heap.size≤wr.heap.size:=aO4 D.out.2.1.size Q.out.size
    have hC:kL (wr.alloc O) wr.heap.size pb mb nm gv a0 J c.vars 0:=by
     refine ⟨by rw[aX,hO,hM.out];rfl,eB (aD n D.out.1.1),(D.out.1.2.below n).below (aL wr O),fun hp=>?_,fun i d U=>aN Y (HV.out i d U).1,by omega,by omega,fun hp=>?_⟩
     ·rw[hM.out] at hp
      exact ⟨(HA.out hp).1,aO2 (HA.out hp).2 Y.size⟩
     ·rw[hM.out] at hp
      have:=(HA.out hp).2;omega
    have ao:gP (· < w.heap.size) (wr.alloc O) (aM (· < w.heap.size) (wr.alloc O) 6) c.regions (.slice a1 NR m1):=by
     have hK:bB A (· < w.heap.size) w (wr.alloc O):=fun x _ aa=>⟨aa,Y.block x aa⟩
     exact HR.out.carry hK (aM.carry hK 6)
    have l:=G8 (A:=(· < w.heap.size)) (fun x hx e=>by have:x<w.heap.size:=hx;omega) (Wk (A:=(· < w.heap.size)) (fun x hx e=>by have:x<w.heap.size:=hx;omega) 6) (wr.alloc O) c.regions (.slice a1 NR m1) 0 hC ao ad.out.sts (by have:=ad.out.many;omega)
    have ab:Hid (_/\_):=⟨Y,lw⟩
    have av:=aN (aL wr O) e2
    rw[hO] at l ab av
    clear hC ao Y lp lm lw hO n
    unfold sF at l
    have af:∀w',Fr (wr.alloc (.cells #[.slice a0 k J,.func (.func 112) #[] #[.pointer (some ⟨pb,0,none⟩)],.int .i64 0] 129)).heap.size [wr.heap.size] (wr.alloc (.cells #[.slice a0 k J,.func (.func 112) #[] #[.pointer (some ⟨pb,0,none⟩)],.int .i64 0] 129)) w'->Below w.heap.size w w':=fun w' hF=>
     ab.out.1.trans ((hF.mono ab.out.1.size (X':=[]) (fun x hx h=>by have:=ab.out.2;simp at hx;omega)).below)
    have an:Hid _:=af
    clear af
    cases hrs:gR (nB c.vars 6) c.regions 0 with
    | error x=>
     obtain ⟨cc,pl⟩:=x
     rw[hrs] at HE l
     have ag:Calls Tryz.prog 68 #[.pointer (some ⟨wr.heap.size,0,none⟩),.slice a1 NR m1] (wr.alloc (.cells #[.slice a0 k J,.func (.func 112) #[] #[.pointer (some ⟨pb,0,none⟩)],.int .i64 0] 129)) fun e y=>∃g,e=.returned (.iface 89 (.pointer (some ⟨g,0,none⟩)))/\Hid (y.heap[g]?=some (.cells #[.int .i64 ((cc:Nat):Int),.int .i64 ((pl:Nat):Int)] 91 (0,0))/\wr.heap.size≤g/\Below w.heap.size w y):=l.mono fun e y ⟨hF,ho⟩=>by
      rcases ho with ⟨_,he,_⟩|⟨c',p',g',he,h1,h2,h3⟩
      ·simp at he
      ·injection he with he
       injection he with e1 e2
       subst e1;subst e2
       exact ⟨g',h1,h2,by simp at h3;omega,an.out _ hF⟩
     clear l
     go_wp2_with (refine ag.mono ?_;rintro e y ⟨ge,rfl,Z⟩)
     go_ret
     exact ⟨Z.out.2.2,.inr (.inr ⟨cc,pl,ge,HE.out,rfl,Z.out.1,aO4 ab.out.2 Z.out.2.1⟩)⟩
    | ok m2=>
     rw[hrs] at HE l
     have ag:Calls Tryz.prog 68 #[.pointer (some ⟨wr.heap.size,0,none⟩),.slice a1 NR m1] (wr.alloc (.cells #[.slice a0 k J,.func (.func 112) #[] #[.pointer (some ⟨pb,0,none⟩)],.int .i64 0] 129)) fun e y=>e=.returned .nilIface/\Hid (Below w.heap.size w y):=l.mono fun e y ⟨hF,ho⟩=>by
      rcases ho with ⟨m',he,h1,h2⟩|⟨_,_,_,he,_⟩
      ·exact ⟨h1,an.out _ hF⟩
      ·simp at he
     clear l
     go_wp2_with (refine ag.mono ?_;rintro e y ⟨rfl,Z⟩)
     go_ret
     exact ⟨Z.out,.inl ⟨HE.out,rfl⟩⟩
end
section
namespace Px
namespace Sh
open Go.Lib
def wE:E->Nat
 | .nil=>0
 | .node _ _ _ l r=>1+wE l+wE r
def TE:E->Prop
 | .nil=>True
 | .node _ _ a l r=>1≤a.code/\a.code≤16/\(-9223372036854775808≤a.num/\a.num≤9223372036854775807)/\a.name.length≤12/\((a.code≤3->l=.nil)/\(a.code≤5->r=.nil)/\(4≤a.code->l≠.nil)/\(6≤a.code->r≠.nil))/\TE l/\TE r
section
variable {L:List Lx.fQ}
def DE (f:Nat->Except F (E×Nat)):Prop:=∀i e j,f i=.ok (e,j)->(TE e/\e≠.nil)/\i<j/\wE e≤j-i
theorem vA {i:Nat}{s:bE}(h:nm L i=.ok s):s.length≤12:=by
 unfold nm at h
 split at h
 ·exact absurd h (by simp)
 ·split at h
  ·exact absurd h (by simp)
  ·injection h with h;subst h;omega
theorem Gh (l:List (bE×Nat)) (s:bE):sE l s=0\/∃p∈l,sE l s=p.2:=by
 induction l with
 | nil=>exact .inl rfl
 | cons p r ih=>
  obtain ⟨t,c⟩:=p
  rw[sE]
  split
  ·exact .inr ⟨(t,c),by simp,rfl⟩
  ·rcases ih with h|⟨q,j,k⟩
   ·exact .inl h
   ·exact .inr ⟨q,by simp[j],k⟩
theorem r7:∀(t:Fin 5) (p:bE×Nat),p∈signs.getD t.val []->6≤p.2/\p.2≤16:=by decide
theorem U8 (t:Nat) (j:t<5) (s:bE):iP t s=0\/(6≤iP t s/\iP t s≤16):=by
 rcases Gh (signs.getD t []) s with h|⟨p,c,k⟩
 ·exact .inl h
 ·have:=r7 ⟨t,j⟩ p c
  rw[iP,k];exact .inr this
theorem Uq {below:Nat->Except F (E×Nat)}{code:bE->Nat}(hb:DE below) (I:∀s,code s=0\/(6≤code s/\code s≤16)):∀(f:Nat) (e:E) (i:Nat) (c:E) (j:Nat),lB L below code f e i=.ok (c,j)->(TE e/\e≠.nil)->(TE c/\c≠.nil)/\i≤j/\wE c≤wE e+(j-i):=by
 intro f
 induction f with
 | zero=>
  intro e i c j h k
  rw[lB] at h
  injection h with h
  injection h with h1 h2
  subst h1;subst h2
  exact ⟨k,aN4 _,by omega⟩
 | succ f ih=>
  intro e i c j h k
  rw[lB] at h
  split at h
  ·injection h with h
   injection h with h1 h2
   subst h1;subst h2
   exact ⟨k,aN4 _,by omega⟩
  ·rename_i hne
   split at h
   ·exact absurd h (by simp)
   ·rename_i r m hr
    obtain ⟨n,J,O⟩:=hb _ _ _ hr
    have u:=I (tx L i)
    have l:TE (Mw (code (tx L i)) e r):=⟨show 1≤code (tx L i) by omega,show code (tx L i)≤16 by omega,⟨show (-9223372036854775808:Int)≤0 by omega,show (0:Int)≤9223372036854775807 by omega⟩,aP4 _,⟨fun h=>absurd (show code (tx L i)≤3 from h) (by omega),fun h=>absurd (show code (tx L i)≤5 from h) (by omega),fun _=>k.2,fun _=>n.2⟩,k.1,n.1⟩
    obtain ⟨y,Q,D⟩:=ih _ _ _ _ h ⟨l,by simp[Mw]⟩
    rw[show wE (Mw (code (tx L i)) e r)=1+wE e+wE r from rfl] at D
    exact ⟨y,by omega,by omega⟩
theorem Ym {below:Nat->Except F (E×Nat)}{code:bE->Nat}(hb:DE below) (l:∀s,code s=0\/(6≤code s/\code s≤16)):DE (zI L below code):=by
 intro i e j h
 rw[zI] at h
 split at h
 ·exact absurd h (by simp)
 ·rename_i e0 m hr
  obtain ⟨c,n,r⟩:=hb _ _ _ hr
  obtain ⟨k,y,u⟩:=Uq hb l _ _ _ _ _ h c
  exact ⟨k,by omega,by omega⟩
theorem Zn {one:Nat->Except F (E×Nat)}(h:DE one):∀t,t≤5->DE (A5 L one t):=by
 intro t
 induction t with
 | zero=>intro _;exact h
 | succ t ih=>intro c;rw[A5];exact Ym (ih (by omega)) (U8 (4-t) (by omega))
theorem xB (s:bE):bP s=0\/bP s=4\/bP s=5:=by unfold bP;(repeat' split)<;>simp
theorem aJ7 (J:Wf L):∀k,DE (one L k):=by
 intro k
 induction k with
 | zero=>intro i e j h;rw[one] at h;exact absurd h (by simp)
 | succ k ih=>
  intro i e j h
  rw[one] at h
  split at h
  ·split at h
   ·exact absurd h (by simp)
   ·rename_i hne _ e0 m hr
    obtain ⟨c,r,u⟩:=ih _ _ _ hr
    injection h with h
    injection h with h1 h2
    subst h1;subst h2
    have l:=xB (tx L i)
    refine ⟨⟨⟨show 1≤bP (tx L i) by omega,show bP (tx L i)≤16 by omega,⟨show (-9223372036854775808:Int)≤0 by omega,show (0:Int)≤9223372036854775807 by omega⟩,aP4 _,⟨fun h=>absurd (show bP (tx L i)≤3 from h) (by omega),fun _=>rfl,fun _=>c.2,fun h=>absurd (show 6≤bP (tx L i) from h) (by omega)⟩,c.1,trivial⟩,by simp[Ua]⟩,by omega,?_⟩
    rw[show wE (Ua (bP (tx L i)) e0)=1+wE e0+0 from rfl]
    omega
  ·split at h
   ·split at h
    ·exact absurd h (by simp)
    ·rename_i e0 m hr
     obtain ⟨c,r,u⟩:=Zn ih 5 (aN4 _) _ _ _ hr
     split at h
     ·injection h with h
      injection h with h1 h2
      subst h1;subst h2
      exact ⟨c,by omega,by omega⟩
     ·exact absurd h (by simp)
   ·split at h
    ·split at h
     ·split at h
      ·exact absurd h (by simp)
      ·rename_i s hs
       split at h
       ·injection h with h
        injection h with h1 h2
        subst h1;subst h2
        refine ⟨⟨⟨show 1≤3 by omega,show 3≤16 by omega,⟨show (-9223372036854775808:Int)≤0 by omega,show (0:Int)≤9223372036854775807 by omega⟩,vA hs,⟨fun _=>rfl,fun _=>rfl,fun h=>absurd (show 4≤3 from h) (by omega),fun h=>absurd (show 6≤3 from h) (by omega)⟩,trivial,trivial⟩,by simp[tU]⟩,by omega,?_⟩
        rw[show wE (tU 3 s)=1+0+0 from rfl];omega
       ·exact absurd h (by simp)
     ·exact absurd h (by simp)
    ·split at h
     ·rename_i hk
      injection h with h
      injection h with h1 h2
      subst h1;subst h2
      obtain ⟨D,I,n3⟩:=J.num i hk
      have y:=(nW (tx L i) n3 D I).2
      have n:(10:Nat) ^ 18=1000000000000000000:=by decide
      rw[n] at y
      refine ⟨⟨⟨show 1≤1 by omega,show 1≤16 by omega,⟨show (-9223372036854775808:Int)≤(val (tx L i):Int) by omega,show (val (tx L i):Int)≤9223372036854775807 by omega⟩,aP4 _,⟨fun _=>rfl,fun _=>rfl,fun h=>absurd (show 4≤1 from h) (by omega),fun h=>absurd (show 6≤1 from h) (by omega)⟩,trivial,trivial⟩,by simp[Yh]⟩,by omega,?_⟩
      rw[show wE (Yh (val (tx L i)))=1+0+0 from rfl];omega
     ·split at h
      ·exact absurd h (by simp)
      ·rename_i s hs
       injection h with h
       injection h with h1 h2
       subst h1;subst h2
       refine ⟨⟨⟨show 1≤2 by omega,show 2≤16 by omega,⟨show (-9223372036854775808:Int)≤0 by omega,show (0:Int)≤9223372036854775807 by omega⟩,vA hs,⟨fun _=>rfl,fun _=>rfl,fun h=>absurd (show 4≤2 from h) (by omega),fun h=>absurd (show 6≤2 from h) (by omega)⟩,trivial,trivial⟩,by simp[tU]⟩,by omega,?_⟩
       rw[show wE (tU 2 s)=1+0+0 from rfl];omega
theorem T8 (hL:Wf L):DE (eP L):=Zn (aJ7 hL 7) 5 (aN4 _)
def wS:List iY->Nat
 | []=>0
 | a::r=>1+wE a.e+wS r
def TS (l:List iY):Prop:=∀a∈l,TE a.e/\a.name.length≤12
theorem qK (l m:List iY):wS (l++m)=wS l+wS m:=by
 induction l with
 | nil=>simp[wS]
 | cons a r ih=>rw[List.cons_append,wS,wS,ih];omega
theorem On (l:List iY):l.length≤wS l:=by
 induction l with
 | nil=>simp
 | cons a r ih=>rw[wS,aR5];omega
theorem TS.app {l m:List iY}(h:TS l) (h':TS m):TS (l++m):=fun a ha=>(aP5.1 ha).elim (h a) (h' a)
theorem J8 (y:Wf L):∀(f:Nat) (l:List iY) (i:Nat) (k:List iY) (j:Nat),sets L f l i=.ok (k,j)->TS l->TS k/\i≤j/\wS k≤wS l+(j-i):=by
 intro f
 induction f with
 | zero=>
  intro l i k j h n
  rw[sets] at h
  injection h with h
  injection h with h1 h2
  subst h1;subst h2
  exact ⟨n,aN4 _,by omega⟩
 | succ f ih=>
  intro l i k j h n
  rw[sets] at h
  split at h
  ·exact absurd h (by simp)
  ·rename_i s hs
   split at h
   ·split at h
    ·exact absurd h (by simp)
    ·rename_i e m hr
     obtain ⟨r,J,O⟩:=T8 y _ _ _ hr
     have c:TS (l++[⟨s,e⟩]):=n.app (fun a u=>by obtain rfl:=aP1.1 u;exact ⟨r.1,vA hs⟩)
     have I:wS (l++[⟨s,e⟩])=wS l+(1+wE e+0):=qK _ _
     split at h
     ·obtain ⟨D,U,Q⟩:=ih _ _ _ _ h c
      exact ⟨D,by omega,by omega⟩
     ·injection h with h
      injection h with h1 h2
      subst h1;subst h2
      exact ⟨c,by omega,by omega⟩
   ·exact absurd h (by simp)
def wW (y:Wy):Nat:=1+wE y.cond+wS y.sets
def TW (y:Wy):Prop:=y.kind≤2/\y.times≤1000/\TE y.cond/\TS y.sets/\y.to.length≤12
theorem Ow {i n:Nat}(h:times L i=.ok n):n≤1000:=by
 unfold times at h
 split at h
 ·exact absurd h (by simp)
 ·split at h
  ·exact absurd h (by simp)
  ·injection h with h;omega
theorem aF9 (k:Wf L) {i n j:Nat}{e:E}(h:cond L i=.ok (n,e,j)):n≤1000/\TE e/\i≤j/\wE e≤j-i:=by
 unfold cond at h
 split at h
 ·split at h
  ·split at h
   ·exact absurd h (by simp)
   ·rename_i n' hn
    split at h
    ·exact absurd h (by simp)
    ·rename_i e' m hr
     obtain ⟨c,l,r⟩:=T8 k _ _ _ hr
     injection h with h
     injection h with h1 h2
     injection h2 with h2 h3
     subst h1;subst h2;subst h3
     exact ⟨Ow hn,c.1,by omega,by omega⟩
  ·split at h
   ·exact absurd h (by simp)
   ·rename_i e' m hr
    obtain ⟨c,l,r⟩:=T8 k _ _ _ hr
    injection h with h
    injection h with h1 h2
    injection h2 with h2 h3
    subst h1;subst h2;subst h3
    exact ⟨by omega,c.1,by omega,by omega⟩
 ·injection h with h
  injection h with h1 h2
  injection h2 with h2 h3
  subst h1;subst h2;subst h3
  exact ⟨by omega,trivial,aN4 _,aP4 _⟩
theorem aF8 (n:Wf L) {i j:Nat}{l:List iY}(h:fR L i=.ok (l,j)):TS l/\i≤j/\wS l≤j-i:=by
 unfold fR at h
 split at h
 ·obtain ⟨r,s,k⟩:=J8 n _ _ _ _ _ h (fun a c=>absurd c (by simp))
  rw[show wS []=0 from rfl] at k
  exact ⟨r,by omega,by omega⟩
 ·injection h with h
  injection h with h1 h2
  subst h1;subst h2
  exact ⟨fun a c=>absurd c (by simp),aN4 _,aP4 _⟩
theorem rH {i:Nat}{s:bE}(h:tx L i=s) (j:s≠[]):i<L.length:=by
 rcases aX8 i L.length with c|c
 ·exact c
 ·exact absurd (by rw[<-h,tx,Jv,iO,aX3 c];rfl) j
theorem aI0 (c:Wf L) {k i j:Nat}{y:Wy}(r:k≤2) (h:uG L k i=.ok (y,j)):TW y/\i<j/\wW y≤j-i/\j≤L.length:=by
 unfold uG at h
 split at h
 ·exact absurd h (by simp)
 ·rename_i n e m hr
  obtain ⟨c1,c2,c3,c4⟩:=aF9 c hr
  split at h
  ·exact absurd h (by simp)
  ·rename_i l q hd
   obtain ⟨u,D,I⟩:=aF8 c hd
   split at h
   ·split at h
    ·exact absurd h (by simp)
    ·rename_i s hs
     split at h
     ·rename_i ht
      have:=rH ht (by simp[fE])
      have J:=pT L gB i
      have o2:=pT L iS (q+2)
      injection h with h
      injection h with h1 h2
      subst h1;subst h2
      refine ⟨⟨r,c1,c2,u,vA hs⟩,by omega,?_,by omega⟩
      show 1+wE e+wS l≤_
      omega
     ·exact absurd h (by simp)
   ·exact absurd h (by simp)
end
def fU {α:Type}(f:α->Nat):List α->Nat
 | []=>0
 | a::r=>f a+fU f r
theorem mL {α:Type}(f:α->Nat) (l m:List α):fU f (l++m)=fU f l+fU f m:=by
 induction l with
 | nil=>simp[fU]
 | cons a r ih=>rw[List.cons_append,fU,fU,ih];omega
theorem sQ {α:Type}(f:α->Nat) (a:α):fU f [a]=f a:=by simp[fU]
section
variable {ρ:Type}
def wR (f:ρ->Nat) (r:List ρ):Nat:=1+fU f r
def lG (f:ρ->Nat) (s:cF ρ):Nat:=1+wS s.enter+wS s.during+wS s.leave+wE s.rests+fU wW s.ways+fU (wR f) s.regions
def B8 (T:ρ->Prop) (s:cF ρ):Prop:=s.name.length≤12/\TS s.enter/\TS s.during/\TS s.leave/\TE s.rests/\(∀y∈s.ways,TW y)/\∀r∈s.regions,∀x∈r,T x
end
def jG:(k:Nat)->St k->Nat
 | 0=>fun _=>1
 | k+1=>fun s=>lG (jG k) s
def Yx:(k:Nat)->St k->Prop
 | 0=>fun _=>True
 | k+1=>fun s=>B8 (Yx k) s
section
variable {L:List Lx.fQ}{ρ:Type}
def DR (L:List Lx.fQ) (T:ρ->Prop) (f:ρ->Nat) (reg:Nat->Nat->Except F (List ρ×Nat×Nat)):Prop:=∀c i l c' j,reg c i=.ok (l,c',j)->(∀x∈l,T x)/\i<j/\wR f l≤j-i/\j≤L.length
theorem J9 {i m:Nat}(h:pD L i=.ok m):m=i+1/\m≤L.length:=by
 unfold pD at h
 split at h
 ·rename_i ht
  have:=rH ht (by simp[fE])
  injection h with h;omega
 ·exact absurd h (by simp)
theorem Ls {s:bE}{k:Nat}(h:cZ s=some k):k≤2:=by
 unfold cZ at h
 split at h
 ·injection h with h;omega
 ·split at h
  ·injection h with h;omega
  ·split at h
   ·injection h with h;omega
   ·exact absurd h (by simp)
variable {T:ρ->Prop}{f:ρ->Nat}{reg:Nat->Nat->Except F (List ρ×Nat×Nat)}
theorem vR:TS []:=fun a ha=>absurd ha (by simp)
theorem aB5 (Z:Wf L) (hr:DR L T f reg) {s s':cF ρ}{c i c' j:Nat}(h:eF L ρ reg s c i=.ok (some (s',c',j))) (hs:B8 T s):B8 T s'/\i<j/\lG f s'≤lG f s+(j-i)/\j≤L.length:=by
 obtain ⟨I,Q,D,J,Y,U,O⟩:=hs
 rw[eF] at h
 split at h
 ·rename_i k hk
  split at h
  ·exact absurd h (by simp)
  ·rename_i y m hy
   obtain ⟨y1,y2,y3,y4⟩:=aI0 Z (Ls hk) hy
   injection h with h;injection h with h;injection h with e1 h;injection h with e2 e3
   subst e1;subst e2;subst e3
   refine ⟨⟨I,Q,D,J,Y,fun z u=>(aP5.1 u).elim (U z) (fun u=>by rw[aP1.1 u];exact y1),O⟩,by omega,?_,y4⟩
   have:=mL wW s.ways [y]
   rw[sQ] at this
   simp only[lG]
   omega
 ·split at h
  ·split at h
   ·exact absurd h (by simp)
   ·rename_i l c1 m hy
    obtain ⟨y1,y2,y3,y4⟩:=hr _ _ _ _ _ hy
    injection h with h;injection h with h;injection h with e1 h;injection h with e2 e3
    subst e1;subst e2;subst e3
    refine ⟨⟨I,Q,D,J,Y,U,fun z u=>(aP5.1 u).elim (O z) (fun u=>by rw[aP1.1 u];exact y1)⟩,by omega,?_,y4⟩
    have:=mL (wR f) s.regions [l]
    rw[sQ] at this
    simp only[lG]
    omega
  ·split at h
   ·split at h
    ·exact absurd h (by simp)
    ·rename_i l m hy
     obtain ⟨r,q2,X⟩:=J8 Z _ _ _ _ _ hy vR
     rw[show wS []=0 from rfl] at X
     split at h
     ·exact absurd h (by simp)
     ·rename_i m2 hm
      have n:=J9 hm
      injection h with h;injection h with h;injection h with e1 h;injection h with e2 e3
      subst e1;subst e2;subst e3
      refine ⟨⟨I,Q.app r,D,J,Y,U,O⟩,by omega,?_,n.2⟩
      have:=qK s.enter l
      simp only[lG]
      omega
   ·split at h
    ·split at h
     ·exact absurd h (by simp)
     ·rename_i l m hy
      obtain ⟨r,q2,X⟩:=J8 Z _ _ _ _ _ hy vR
      rw[show wS []=0 from rfl] at X
      split at h
      ·exact absurd h (by simp)
      ·rename_i m2 hm
       have n:=J9 hm
       injection h with h;injection h with h;injection h with e1 h;injection h with e2 e3
       subst e1;subst e2;subst e3
       refine ⟨⟨I,Q,D.app r,J,Y,U,O⟩,by omega,?_,n.2⟩
       have:=qK s.during l
       simp only[lG]
       omega
    ·split at h
     ·split at h
      ·exact absurd h (by simp)
      ·rename_i l m hy
       obtain ⟨r,q2,X⟩:=J8 Z _ _ _ _ _ hy vR
       rw[show wS []=0 from rfl] at X
       split at h
       ·exact absurd h (by simp)
       ·rename_i m2 hm
        have n:=J9 hm
        injection h with h;injection h with h;injection h with e1 h;injection h with e2 e3
        subst e1;subst e2;subst e3
        refine ⟨⟨I,Q,D,J.app r,Y,U,O⟩,by omega,?_,n.2⟩
        have:=qK s.leave l
        simp only[lG]
        omega
     ·split at h
      ·split at h
       ·rename_i he
        split at h
        ·exact absurd h (by simp)
        ·rename_i e m hy
         obtain ⟨r,q2,X⟩:=T8 Z _ _ _ hy
         split at h
         ·exact absurd h (by simp)
         ·rename_i m2 hm
          have n:=J9 hm
          injection h with h;injection h with h;injection h with e1 h;injection h with e2 e3
          subst e1;subst e2;subst e3
          refine ⟨⟨I,Q,D,J,r.1,U,O⟩,by omega,?_,n.2⟩
          simp only[lG]
          omega
       ·exact absurd h (by simp)
      ·exact absurd h (by simp)
theorem Wq (D:Wf L) (y:DR L T f reg):∀(n:Nat) (s:cF ρ) (c i:Nat) (s':cF ρ) (l j:Nat),parts L ρ reg n s c i=.ok (s',l,j)->B8 T s->i≤L.length->B8 T s'/\i≤j/\lG f s'≤lG f s+(j-i)/\j≤L.length:=by
 intro n
 induction n with
 | zero=>
  intro s c i s' l j h k r
  rw[parts] at h
  injection h with h;injection h with e1 h;injection h with e2 e3
  subst e1;subst e2;subst e3
  exact ⟨k,aN4 _,by omega,r⟩
 | succ n ih=>
  intro s c i s' l j h k r
  rw[parts] at h
  split at h
  ·exact absurd h (by simp)
  ·split at h
   ·rename_i ht
    have:=rH ht (by simp[jM])
    injection h with h;injection h with e1 h;injection h with e2 e3
    subst e1;subst e2;subst e3
    exact ⟨k,by omega,by omega,by omega⟩
   ·exact absurd h (by simp)
  ·rename_i s1 c1 m hp
   obtain ⟨p1,p2,p3,p4⟩:=aB5 D y hp k
   obtain ⟨I,O,J,u⟩:=ih _ _ _ _ _ _ h p1 p4
   exact ⟨I,by omega,by omega,u⟩
theorem Wc (I:Wf L) (k:DR L T f reg) {l la:Bool}{c i O j:Nat}{s:cF ρ}(h:cP L ρ reg l la c i=.ok (s,O,j)):B8 T s/\i<j/\lG f s≤j-i/\j≤L.length:=by
 rw[cP] at h
 split at h
 ·split at h
  ·exact absurd h (by simp)
  ·split at h
   ·exact absurd h (by simp)
   ·rename_i nm' hn
    have n:B8 T (⟨nm',l,la,[],[],[],.nil,[],[]⟩:cF ρ):=⟨vA hn,vR,vR,vR,trivial,fun y D=>absurd D (by simp),fun r k=>absurd k (by simp)⟩
    have Q:lG f (⟨nm',l,la,[],[],[],.nil,[],[]⟩:cF ρ)=1:=rfl
    split at h
    ·rename_i ht
     have:=rH ht (by simp[fE])
     injection h with h;injection h with e1 h;injection h with e2 e3
     subst e1;subst e2;subst e3
     exact ⟨n,by omega,by omega,by omega⟩
    ·split at h
     ·rename_i ht
      have:=rH ht (by simp[fF])
      obtain ⟨J,X,U,u⟩:=Wq I k _ _ _ _ _ _ _ h n (by omega)
      exact ⟨J,by omega,by omega,u⟩
     ·exact absurd h (by simp)
 ·exact absurd h (by simp)
theorem Pe (J:Wf L) (I:DR L T f reg):∀(n:Nat) (l:List (cF ρ)) (c i:Nat) (k:List (cF ρ)) (u j:Nat),states L ρ reg n l c i=.ok (k,u,j)->(∀x∈l,B8 T x)->i≤L.length->(∀x∈k,B8 T x)/\i≤j/\fU (lG f) k≤fU (lG f) l+(j-i)/\j≤L.length:=by
 intro n
 induction n with
 | zero=>
  intro l c i k u j h r y
  rw[states] at h
  injection h with h;injection h with e1 h;injection h with e2 e3
  subst e1;subst e2;subst e3
  exact ⟨r,aN4 _,by omega,y⟩
 | succ n ih=>
  intro l c i k u j h r y
  rw[states] at h
  split at h
  ·split at h
   ·exact absurd h (by simp)
   ·rename_i s c1 m hs
    obtain ⟨p1,p2,p3,p4⟩:=Wc J I hs
    have X:=pT L dO i
    have o2:=pT L iC (kH L dO i)
    obtain ⟨O,U,Q,D⟩:=ih _ _ _ _ _ _ h (fun x hx=>(aP5.1 hx).elim (r x) (fun hx=>by rw[aP1.1 hx];exact p1)) p4
    rw[mL,sQ] at Q
    exact ⟨O,by omega,by omega,D⟩
  ·split at h
   ·rename_i ht
    have:=rH ht (by simp[jM])
    injection h with h;injection h with e1 h;injection h with e2 e3
    subst e1;subst e2;subst e3
    exact ⟨r,by omega,by omega,by omega⟩
   ·exact absurd h (by simp)
end
theorem Pz {L:List Lx.fQ}(u:Wf L):∀k,DR L (Yx k) (jG k) (aW L k):=by
 intro k
 induction k with
 | zero=>intro c i l r j h;rw[aW] at h;exact absurd h (by simp)
 | succ k ih=>
  intro c i l r j h
  have n:@ite (Except F (List (cF (St k))×Nat×Nat)) (tx L i=fF) _ (states L (St k) (aW L k) L.length [] c (i+1)) (.error (3,pl L i))=.ok (l,r,j):=h
  by_cases ht:tx L i=fF
  ·rw[if_pos ht] at n
   have:=rH ht (by simp[fF])
   obtain ⟨y,I,D,s⟩:=Pe u ih _ _ _ _ _ _ _ n (fun x hx=>absurd hx (by simp)) (by omega)
   refine ⟨y,by omega,?_,s⟩
   rw[show fU (lG (jG k)) []=0 from rfl] at D
   show 1+fU (lG (jG k)) l≤_
   omega
  ·rw[if_neg ht] at n
   exact absurd n (by simp)
section
variable {L:List Lx.fQ}
def TD (v:bQ):Prop:=(1≤v.kind/\v.kind≤3/\-9223372036854775808≤v.first/\v.first≤9223372036854775807)/\v.name.length≤12
theorem Al (l:Wf L) {i n:Nat}(h:bS L i=.ok n):n<1000000000000000000:=by
 unfold bS at h
 split at h
 ·rename_i hk
  obtain ⟨r,j,n3⟩:=l.num i hk
  have k:=(nW (tx L i) n3 r j).2
  have c:(10:Nat) ^ 18=1000000000000000000:=by decide
  rw[c] at k
  injection h with h
  omega
 ·exact absurd h (by simp)
theorem Yd (c:Wf L) {i j:Nat}{n:Int}(h:first L i=.ok (n,j)):-9223372036854775808≤n/\n≤9223372036854775807/\i≤j:=by
 unfold first at h
 split at h
 ·split at h
  ·split at h
   ·exact absurd h (by simp)
   ·rename_i q hq
    have:=Al c hq
    injection h with h;injection h with e1 e2
    subst e1;subst e2
    exact ⟨by omega,by omega,by omega⟩
  ·split at h
   ·exact absurd h (by simp)
   ·rename_i q hq
    have:=Al c hq
    injection h with h;injection h with e1 e2
    subst e1;subst e2
    exact ⟨by omega,by omega,by omega⟩
 ·injection h with h;injection h with e1 e2
  subst e1;subst e2
  exact ⟨by omega,by omega,by omega⟩
theorem Lv (s:bE):dY s≤3:=by unfold dY;(repeat' split)<;>omega
theorem Di (r:Wf L) {k i j:Nat}{v:bQ}(c:1≤k) (l:k≤3) (h:dC L k i=.ok (v,j)):TD v/\i<j/\j≤L.length:=by
 unfold dC at h
 split at h
 ·exact absurd h (by simp)
 ·rename_i s hs
  split at h
  ·exact absurd h (by simp)
  ·rename_i n m hf
   obtain ⟨f1,f2,u⟩:=Yd r hf
   split at h
   ·rename_i ht
    have:=rH ht (by simp[fE])
    injection h with h;injection h with e1 e2
    subst e1;subst e2
    exact ⟨⟨⟨c,l,f1,f2⟩,vA hs⟩,by omega,by omega⟩
   ·exact absurd h (by simp)
theorem Xr (U:Wf L):∀(n:Nat) (vs:List bQ) (rs:List (List (St 6))) (c i:Nat) (s:List bQ) (k:List (List (St 6))) (j:Nat),kM L n vs rs c i=.ok (s,k,j)->(∀v∈vs,TD v)->(∀r∈rs,∀x∈r,Yx 6 x)->i≤L.length->
    (∀v∈s,TD v)/\(∀r∈k,∀x∈r,Yx 6 x)/\i≤j/\s.length+fU (wR (jG 6)) k≤vs.length+fU (wR (jG 6)) rs+(j-i)/\j≤L.length:=by
 intro n
 induction n with
 | zero=>
  intro vs rs c i s k j h y u Q
  rw[kM] at h
  injection h with h;injection h with e1 h;injection h with e2 e3
  subst e1;subst e2;subst e3
  exact ⟨y,u,aN4 _,by omega,Q⟩
 | succ n ih=>
  intro vs rs c i s k j h y u Q
  rw[kM] at h
  split at h
  ·rename_i hk
   split at h
   ·exact absurd h (by simp)
   ·split at h
    ·exact absurd h (by simp)
    ·rename_i v m hd
     obtain ⟨p1,p2,p3⟩:=Di U (by omega) (Lv _) hd
     obtain ⟨I,J,X,D,O⟩:=ih _ _ _ _ _ _ _ h (fun x hx=>(aP5.1 hx).elim (y x) (fun hx=>by rw[aP1.1 hx];exact p1)) u p3
     rw[aO6,aW9] at D
     exact ⟨I,J,by omega,by omega,O⟩
  ·split at h
   ·split at h
    ·exact absurd h (by simp)
    ·rename_i l c1 m hd
     obtain ⟨p1,p2,p3,p4⟩:=Pz U 6 _ _ _ _ _ hd
     obtain ⟨I,J,X,D,O⟩:=ih _ _ _ _ _ _ _ h y (fun x hx=>(aP5.1 hx).elim (u x) (fun hx=>by rw[aP1.1 hx];exact p1)) p4
     rw[mL,sQ] at D
     exact ⟨I,J,by omega,by omega,O⟩
   ·split at h
    ·rename_i ht
     have:=rH ht (by simp[jM])
     injection h with h;injection h with e1 h;injection h with e2 e3
     subst e1;subst e2;subst e3
     exact ⟨y,u,by omega,by omega,by omega⟩
    ·exact absurd h (by simp)
theorem sR {α:Type}(g:α->Nat) (l:List α) (z:α) (c:z∈l):g z≤fU g l:=by
 induction l with
 | nil=>exact absurd c (by simp)
 | cons b q ihq=>
  rw[fU]
  rcases aV8.1 c with rfl|c
  ·omega
  ·have:=ihq c;omega
theorem V4 (k:Wf L) {c:fZ}(h:dJ L=.ok c):(∀v∈c.vars,TD v)/\(∀r∈c.regions,∀x∈r,Yx 6 x)/\c.vars.length+fU (wR (jG 6)) c.regions≤601:=by
 unfold dJ at h
 split at h
 ·split at h
  ·exact absurd h (by simp)
  ·rename_i s hs
   split at h
   ·rename_i ht
    have D:=rH ht (by simp[fF])
    split at h
    ·exact absurd h (by simp)
    ·rename_i vs rs i hi
     obtain ⟨n,u,I,l,J⟩:=Xr k _ _ _ _ _ _ _ _ hi (fun v j=>absurd j (by simp)) (fun v j=>absurd j (by simp)) (by omega)
     rw[show fU (wR (jG 6)) []=0 from rfl,aX7] at l
     have y:=k.len
     split at h
     ·injection h with h
      subst h
      exact ⟨n,u,by show vs.length+fU (wR (jG 6)) rs≤601;omega⟩
     ·exact absurd h (by simp)
   ·exact absurd h (by simp)
 ·exact absurd h (by simp)
end
end Sh
end Px
end
section
open Go.RowKit Px
theorem Tryz.isAtAny (v:Value) (w:World):(Instr.typeAssert (.iface 89 v) 20 89 true).run Tryz.prog w=.ok (.tuple #[v,.bool true]) w:=by kernel_rfl
theorem Gu (c k:Addr) (w:World) :
    CallsD Tryz.prog 64 #[.pointer (some c),.pointer (some k)] .returning w fun e u' w'=>e=.returned (.tuple #[])/\u'=.returning/\w'=w:=by
 refine callsD_of_wpS Tryz.func64 rfl fun j cs h=>?_
 apply wpS_seq
 apply wpS_region
 simp[wpOpsS,go_sem,recoverD,h,Tryz.ntmps64,Exit.thenS]
 apply wpS_of_wp
 go_wp2
 cases j
 simp_all [bodyPostS,results,Tryz.results64]
end
end Go.Proofs.YthieaobjdpfcoaaGreatDoor
