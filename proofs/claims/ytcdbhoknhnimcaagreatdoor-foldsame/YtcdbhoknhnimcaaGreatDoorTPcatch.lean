import Derived.Test.YtcdbhoknhnimcaaGreatDoorTSmall
import Derived.Test.YtcdbhoknhnimcaaGreatDoorTPchart2
import Derived.Test.YtcdbhoknhnimcaaGreatDoorTRreg0
import Derived.Test.YtcdbhoknhnimcaaGreatDoorTPsets
import Derived.Test.YtcdbhoknhnimcaaGreatDoorTPvar
import Derived.Defers
import Derived.Recover
set_option maxRecDepth 100000
set_option maxHeartbeats 4000000
namespace Go.Proofs.YtcdbhoknhnimcaaGreatDoor
section
open Go.RowKit Px
theorem lY.open {A:Nat->Prop}{w:World}{l:List bJ}{v:Value}(h:lY A w l v) :
    ∃ad g cap,v=.slice ad l.length cap/\l.length≤maxLen/\(0<l.length->ad=some ⟨g,0,none⟩/\g<w.heap.size)/\∀(i:Nat) (d:bJ),l[i]?=some d->w.cell? ⟨g,i*3,none⟩=some (.int .i64 (d.kind:Int))/\w.cell? ⟨g,i*3+1,none⟩=some (sv d.name)/\w.cell? ⟨g,i*3+2,none⟩=some (.int .i64 d.first):=by
 obtain ⟨xs,hr,hs⟩:=h
 obtain ⟨ad,g,cap,h1,h2,h3,h4⟩:=uX.open (k:=3) (fun a c hc=>by rw[show c=_ from hc];rfl) hr hs
 refine ⟨ad,g,cap,h1,h2,fun hp=>⟨(h3 hp).1,(h3 hp).2.2⟩,fun i a hi=>?_⟩
 obtain ⟨c,hc,hx⟩:=h4 i a hi
 obtain rfl:c=_:=hc
 exact ⟨hx 0 _ rfl,hx 1 _ rfl,hx 2 _ rfl⟩
theorem Wi (w:World) (o o':Obj):((w.alloc o).alloc o').heap[w.heap.size+1]?=some o':=by
 have e:w.heap.size+1=(w.alloc o).heap.size:=by simp
 rw[e];exact bE _ _
structure qF (c:fU):Prop where
 vars:c.vars.length≤1000000
 names:∀v∈c.vars,v.name.length≤maxLen
 sts:∀r∈c.regions,∀x∈r,Es 6 x
 many:gU (K8 6) c.regions≤1000000
def Sr (o:Option (Nat×Option Nat)) (w:World) (e:Ending) (w':World):Prop:=
 Below w.heap.size w w'/\((o=none/\e=.returned .nilIface)\/(∃c,o=some (c,none)/\e=.returned (.iface 94 (.int .i64 ((c:Nat):Int))))\/∃c p g,o=some (c,some p)/\e=.returned (.iface 115 (.pointer (some ⟨g,0,none⟩)))/\w'.heap[g]?=some (.cells #[.int .i64 ((c:Nat):Int),.int .i64 ((p:Nat):Int)] 117 (0,0))/\w.heap.size≤g)
theorem O7 (ns:List bB):∀(f i:Nat),(∀j,i≤j->j<i+f->¬eB ns (ns.getD j [])<j)->mZ ns f i=none:=by
 intro f
 induction f with
 | zero=>intro i _;rfl
 | succ f ih=>
  intro i h
  rw[mZ,if_neg (h i (Nat.le_refl _) (by omega))]
  exact ih (i+1) fun j h1 h2=>h j (by omega) (by omega)
theorem O6 (ns:List bB):∀(f i k:Nat),i≤k->k<i+f->eB ns (ns.getD k [])<k->(∀j,i≤j->j<k->¬eB ns (ns.getD j [])<j)->mZ ns f i=some k:=by
 intro f
 induction f with
 | zero=>intro i k h1 h2;omega
 | succ f ih=>
  intro i k h1 h2 hk h
  rw[mZ]
  by_cases e:i=k
  ·subst e;rw[if_pos hk]
  ·rw[if_neg (h i (Nat.le_refl _) (by omega))]
   exact ih (i+1) k (by omega) (by omega) hk fun j h3 h4=>h j (by omega) h4
theorem sY {vs:List bJ}{i:Nat}{d:bJ}(h:vs[i]?=some d):(cD vs).getD i []=d.name:=by
 rw[cD,List.getD_eq_getElem?_getD,List.getElem?_map,h];rfl
theorem Ed (c:fU) (h1:mZ (cD c.vars) c.vars.length 0=none) (h2:c.regions≠[]):fZ c=match gK (mN c.vars 6) c.regions 0 with
    | .error (e,p)=>some (e,some p)
    | .ok _=>none:=by
 unfold fZ;rw[h1]
 show (if c.regions=[] then _ else _)=_
 rw[if_neg h2]
 cases gK (mN c.vars 6) c.regions 0 with
 | error x=>cases x;rfl
 | ok _=>rfl
theorem iM {A:Nat->Prop}{w:World}{c:fU}{v:Value}(h:gJ A w c v) (hN:qF c):Calls Tryz.prog 53 #[v] w (Sr (fZ c) w):=by
 have hmf:∀(fn:Fn) (first cap:Array Value) (w:World),(Instr.makeFunc fn first cap).run Tryz.prog w=.ok (.func fn first cap) w:=fun _ _ _ _=>rfl
 obtain ⟨a0,n0,m0,a1,n1,m1,rfl,hV,hR⟩:=h
 obtain ⟨adv,gv,capv,ev,v1,v2,v3⟩:=hV.open
 injection ev with e1 e2 e3
 subst e1;subst e2;subst e3
 obtain ⟨adr,gr,capr,er,r1,-,-⟩:=hR.len
 injection er with e1 e2 e3
 subst e1;subst e2;subst e3
 obtain ⟨S,hS⟩:∃S,sv c.name=.string S:=⟨_,rfl⟩
 rw[hS]
 obtain ⟨M,hM⟩:∃M,Hid (c.vars.length=M):=⟨_,rfl⟩
 have hMx:M≤1000000:=by rw[<-hM.out];exact hN.vars
 have hMl:Hid (M=(cD c.vars).length):=by rw[Hid,cD,List.length_map];exact hM.out.symm
 have HV:Hid (∀(i:Nat) (d:bJ),c.vars[i]?=some d->w.cell? ⟨gv,i*3,none⟩=some (.int .i64 (d.kind:Int))/\w.cell? ⟨gv,i*3+1,none⟩=some (sv d.name)/\w.cell? ⟨gv,i*3+2,none⟩=some (.int .i64 d.first)):=v3
 rw[hM.out] at v2 ⊢
 have HA:Hid (0<M->a0=some ⟨gv,0,none⟩/\gv<w.heap.size):=v2
 have HR:Hid (gI A w (aL A w 6) c.regions (.slice a1 c.regions.length m1)):=hR
 have HNC:Hid (qF c):=hN
 have hat:∀i,i<M->∃d,c.vars[i]?=some d:=fun i hi=>⟨c.vars[i]'(by rw[hM.out];exact hi),List.getElem?_eq_getElem _⟩
 have hln:Hid (∀i,i<M->((cD c.vars).getD i []).length≤maxLen):=fun i hi=>by
  obtain ⟨d,hd⟩:=hat i hi
  rw[sY hd]
  exact HNC.out.names d (List.mem_of_getElem? hd)
 obtain ⟨O,hO⟩:∃O,O=Obj.cells #[.string S,.slice a0 M m0,.slice a1 c.regions.length m1] 52:=⟨_,rfl⟩
 have hbx:(w.alloc O).heap[w.heap.size]?=some (.cells #[.string S,.slice a0 M m0,.slice a1 c.regions.length m1] 52 (0,0)):=by rw[bE,hO]
 have hcall:=xU 92 (.inl rfl) w.heap.size (cD c.vars) M hMl hMx hln (w.alloc O) (fun X i hX hi=>by
  obtain ⟨d,hd⟩:=hat i hi
  rw[sY hd]
  exact Og (aM hX (aA hbx 1 rfl)) hi (fun h=>(HA.out h).1) (aM hX (aM (aC w O) (HV.out i d hd).2.1)))
 have HB0:Hid (Below w.heap.size w (w.alloc O)/\(w.alloc O).heap[w.heap.size]?=some (.cells #[.string S,.slice a0 M m0,.slice a1 c.regions.length m1] 52 (0,0))):=⟨aC w O,hbx⟩
 rw[hO] at hcall HB0
 clear hV hR v1 v2 v3 hN hat hO hbx hS
 obtain ⟨NR,hNR⟩:∃NR,Hid (c.regions.length=NR):=⟨_,rfl⟩
 rw[hNR.out] at hcall HB0 r1 HR ⊢
 go_enter Tryz.func53,Tryz.ntmps53
 go_upto_region 2 with (refine hcall.mono ?_;rintro e w1 ⟨f,rfl,⟨pb,mb,nm,rfl,hpb,hmb⟩,hb⟩;have HF:Hid ((w1.heap[pb]?=some (.cells #[.map (some mb)] 213 (0,0))/\gY w1 mb nm (jK (cD c.vars)))/\Below w.heap.size w w1/\w1.heap[w.heap.size]?=some (.cells #[.string S,.slice a0 M m0,.slice a1 NR m1] 52 (0,0))):=⟨⟨hpb,hmb⟩,aN HB0.out.1 hb,aH hb HB0.out.2⟩;clear hpb hmb hb)
 clear hcall
 have d1:=aA HF.out.2.2 1 (u:=.slice a0 M m0) rfl
 go_wp2_with fail
 clear d1
 go_loopg [15] M (fun f i wr=>∃k:Nat,f=M-k/\k≤M/\i=.int .i64 (k:Int)/\Hid (Below w1.heap.size w1 wr/\∀j,j<k->¬eB (cD c.vars) ((cD c.vars).getD j [])<j))
 case atStart=>exact ⟨0,by omega,by omega,rfl,Below.refl _ _,fun j hj=>absurd hj (by omega)⟩
 case round=>
  obtain ⟨k,rfl,hk,rfl,hr⟩:=hrel
  obtain ⟨hBr,hno⟩:=hr.out
  have HBR:Hid (Below w1.heap.size w1 wr):=hBr
  have HNO:Hid (∀j,j<k->¬eB (cD c.vars) ((cD c.vars).getD j [])<j):=hno
  clear hr hno
  by_cases hlt:k<M
  ·obtain ⟨d,hd⟩:∃d,c.vars[k]?=some d:=⟨c.vars[k]'(by rw[hM.out];exact hlt),List.getElem?_eq_getElem _⟩
   have hnm:=sY hd
   have hBw:Below w.heap.size w wr:=aN HF.out.2.1 hBr
   obtain ⟨x0,x1,x2⟩:=HV.out k d hd
   have y0:=aM hBw x0
   have y1:=aM hBw x1
   have y2:=aM hBw x2
   have hix:=ixV a0 gv M m0 k hlt (fun h=>(HA.out h).1)
   have hlen:d.name.length≤maxLen:=HNC.out.names d (List.mem_of_getElem? hd)
   have hfind:=fun o=>mQ (w:=wr.alloc o) (s:=d.name) (dW (aH hBr HF.out.1.1)) ((HF.out.1.2.below hBr).below (aC wr o)) hlen
   obtain ⟨I,hI⟩:∃I,Hid (eB (cD c.vars) ((cD c.vars).getD k [])=I):=⟨_,rfl⟩
   rw[<-hnm] at hfind
   rw[hI.out] at hfind
   rw[hnm] at hfind
   obtain ⟨T,hT⟩:∃T,sv d.name=.string T:=⟨_,rfl⟩
   rw[hT] at hfind y1
   have hcall:=hfind (.cells #[.int .i64 (d.kind:Int),.string T,.int .i64 d.first] 160)
   clear hfind x0 x1 x2 hT hlen hd hnm hBw hBr
   by_cases hi:I<(k:Int)
   ·have HE:Hid (fZ c=some (9,some k)):=by
     have:mZ (cD c.vars) c.vars.length 0=some k:=O6 _ _ 0 k (by omega) (by rw[hM.out];omega) (by rw[hI.out];exact hi) (fun j _ hj=>HNO.out j hj)
     unfold Hid fZ;rw[this]
    go_wp2_with (refine hcall.mono ?_;rintro e w' ⟨rfl,rfl⟩)
    go_ret
    refine ⟨aN HF.out.2.1 (aN HBR.out (aN (aC _ _) (aC _ _))),.inr (.inr ⟨9,k,_,HE.out,rfl,Wi _ _ _,?_⟩)⟩
    have:=HF.out.2.1.size
    have:=HBR.out.size
    simp;omega
   ·go_wp2_with (refine hcall.mono ?_;rintro e w' ⟨rfl,rfl⟩)
    go_roundg (M-(k+1))
    case measure=>omega
    case rel=>
     refine ⟨k+1,rfl,by omega,by go_num,aN HBR.out (aC _ _),fun j hj=>?_⟩
     by_cases e:j=k
     ·subst e;rw[hI.out];exact hi
     ·exact HNO.out j (by omega)
  ·obtain rfl:k=M:=by omega
   have HT:Hid (mZ (cD c.vars) c.vars.length 0=none):=O7 _ _ _ fun j _ hj=>HNO.out j (by rw[hM.out] at hj;omega)
   have e1:=aA (aH hBr HF.out.2.2) 1 (u:=.slice a0 k m0) rfl
   have e2:=aA (aH hBr HF.out.2.2) 2 (u:=.slice a1 NR m1) rfl
   by_cases h0:NR=0
   ·subst h0
    have HE:Hid (fZ c=some (8,none)):=by
     have:c.regions=[]:=List.length_eq_zero_iff.1 hNR.out
     unfold Hid fZ;rw[HT.out,this];rfl
    clear hBr
    go_wp2_with fail
    go_ret
    exact ⟨aN HF.out.2.1 HBR.out,.inr (.inl ⟨8,HE.out,rfl⟩)⟩
   ·have hz1:¬(NR:Int)=0:=by omega
    have hz2:((NR:Int)==0)=false:=by simp;omega
    have hrn:c.regions≠[]:=fun e=>h0 (by rw[<-hNR.out,e];rfl)
    have HE:Hid (fZ c=_):=Ed c HT.out hrn
    obtain ⟨O,hO⟩:∃O,O=Obj.cells #[.slice a0 k m0,.func (.func 143) #[] #[.pointer (some ⟨pb,0,none⟩)],.int .i64 0] 163:=⟨_,rfl⟩
    have hBO:Below w.heap.size w (wr.alloc O):=aN HF.out.2.1 (aN HBR.out (aC wr O))
    have lp:=aB (aH hBr HF.out.1.1)
    have lm:=(HF.out.1.2.below hBr).lt
    have lw:w.heap.size≤wr.heap.size:=Nat.le_trans HF.out.2.1.size HBR.out.size
    have hC:jV (wr.alloc O) wr.heap.size pb mb nm gv a0 m0 c.vars 0:=by
     refine ⟨by rw[bE,hO,hM.out];rfl,dW (aH hBr HF.out.1.1),(HF.out.1.2.below hBr).below (aC wr O),fun hp=>?_,fun i d hi=>aM hBO (HV.out i d hi).1,by omega,by omega,fun hp=>?_⟩
     ·rw[hM.out] at hp
      exact ⟨(HA.out hp).1,Nat.lt_of_lt_of_le (HA.out hp).2 hBO.size⟩
     ·rw[hM.out] at hp
      have:=(HA.out hp).2;omega
    have hRg:gI (· < w.heap.size) (wr.alloc O) (aL (· < w.heap.size) (wr.alloc O) 6) c.regions (.slice a1 NR m1):=by
     have hK:aX A (· < w.heap.size) w (wr.alloc O):=fun x _ hlt=>⟨hlt,hBO.block x hlt⟩
     exact HR.out.carry hK (aL.carry hK 6)
    have hcall:=A5 (A:=(· < w.heap.size)) (fun x hx e=>by have:x<w.heap.size:=hx;omega) (Tz (A:=(· < w.heap.size)) (fun x hx e=>by have:x<w.heap.size:=hx;omega) 6) (wr.alloc O) c.regions (.slice a1 NR m1) 0 hC hRg HNC.out.sts (by have:=HNC.out.many;omega)
    have HBO:Hid (_/\_):=⟨hBO,lw⟩
    have e2':=aM (aC wr O) e2
    rw[hO] at hcall HBO e2'
    clear hC hRg hBO lp lm lw hO hBr
    unfold rK at hcall
    have hsub:∀w',Fr (wr.alloc (.cells #[.slice a0 k m0,.func (.func 143) #[] #[.pointer (some ⟨pb,0,none⟩)],.int .i64 0] 163)).heap.size [wr.heap.size] (wr.alloc (.cells #[.slice a0 k m0,.func (.func 143) #[] #[.pointer (some ⟨pb,0,none⟩)],.int .i64 0] 163)) w'->Below w.heap.size w w':=fun w' hF=>
     HBO.out.1.trans ((hF.mono HBO.out.1.size (X':=[]) (fun x hx h=>by have:=HBO.out.2;simp at hx;omega)).below)
    have HSB:Hid _:=hsub
    clear hsub
    cases hrs:gK (mN c.vars 6) c.regions 0 with
    | error x=>
     obtain ⟨cc,pl⟩:=x
     rw[hrs] at HE hcall
     have hI2:Calls Tryz.prog 93 #[.pointer (some ⟨wr.heap.size,0,none⟩),.slice a1 NR m1] (wr.alloc (.cells #[.slice a0 k m0,.func (.func 143) #[] #[.pointer (some ⟨pb,0,none⟩)],.int .i64 0] 163)) fun e w''=>∃g,e=.returned (.iface 115 (.pointer (some ⟨g,0,none⟩)))/\Hid (w''.heap[g]?=some (.cells #[.int .i64 ((cc:Nat):Int),.int .i64 ((pl:Nat):Int)] 117 (0,0))/\wr.heap.size≤g/\Below w.heap.size w w''):=hcall.mono fun e w'' ⟨hF,ho⟩=>by
      rcases ho with ⟨_,he,_⟩|⟨c',p',g',he,h1,h2,h3⟩
      ·simp at he
      ·injection he with he
       injection he with e1 e2
       subst e1;subst e2
       exact ⟨g',h1,h2,by simp at h3;omega,HSB.out _ hF⟩
     clear hcall
     go_wp2_with (refine hI2.mono ?_;rintro e w'' ⟨ge,rfl,hge⟩)
     go_ret
     exact ⟨hge.out.2.2,.inr (.inr ⟨cc,pl,ge,HE.out,rfl,hge.out.1,Nat.le_trans HBO.out.2 hge.out.2.1⟩)⟩
    | ok m2=>
     rw[hrs] at HE hcall
     have hI2:Calls Tryz.prog 93 #[.pointer (some ⟨wr.heap.size,0,none⟩),.slice a1 NR m1] (wr.alloc (.cells #[.slice a0 k m0,.func (.func 143) #[] #[.pointer (some ⟨pb,0,none⟩)],.int .i64 0] 163)) fun e w''=>e=.returned .nilIface/\Hid (Below w.heap.size w w''):=hcall.mono fun e w'' ⟨hF,ho⟩=>by
      rcases ho with ⟨m',he,h1,h2⟩|⟨_,_,_,he,_⟩
      ·exact ⟨h1,HSB.out _ hF⟩
      ·simp at he
     clear hcall
     go_wp2_with (refine hI2.mono ?_;rintro e w'' ⟨rfl,hge⟩)
     go_ret
     exact ⟨hge.out,.inl ⟨HE.out,rfl⟩⟩
end
section
namespace Px
namespace Sh
open Go.Lib
def wE:E->Nat
 | .nil=>0
 | .node _ _ _ l r=>1+wE l+wE r
def TE:E->Prop
 | .nil=>True
 | .node _ _ a l r=>1≤a.code/\a.code≤16/\(-9223372036854775808≤a.num/\a.num≤9223372036854775807)/\a.name.length≤12/\((a.code≤3->l=.nil)/\(a.code≤5->r=.nil)/\(4≤a.code->l≠.nil)/\(6≤a.code->r≠.nil))/\TE l/\TE r
section
variable {L:List Lx.fK}
def DE (f:Nat->Except F (E×Nat)):Prop:=∀i e j,f i=.ok (e,j)->(TE e/\e≠.nil)/\i<j/\wE e≤j-i
theorem tO {i:Nat}{s:bB}(h:nm L i=.ok s):s.length≤12:=by
 unfold nm at h
 split at h
 ·exact absurd h (by simp)
 ·split at h
  ·exact absurd h (by simp)
  ·injection h with h;subst h;omega
theorem Dz (l:List (bB×Nat)) (s:bB):rJ l s=0\/∃p∈l,rJ l s=p.2:=by
 induction l with
 | nil=>exact .inl rfl
 | cons p r ih=>
  obtain ⟨t,c⟩:=p
  rw[rJ]
  split
  ·exact .inr ⟨(t,c),by simp,rfl⟩
  ·rcases ih with h|⟨q,hq,he⟩
   ·exact .inl h
   ·exact .inr ⟨q,by simp[hq],he⟩
theorem R9:∀(t:Fin 5) (p:bB×Nat),p∈signs.getD t.val []->6≤p.2/\p.2≤16:=by decide
theorem I2 (t:Nat) (ht:t<5) (s:bB):iI t s=0\/(6≤iI t s/\iI t s≤16):=by
 rcases Dz (signs.getD t []) s with h|⟨p,hp,he⟩
 ·exact .inl h
 ·have:=R9 ⟨t,ht⟩ p hp
  rw[iI,he];exact .inr this
theorem Rz {below:Nat->Except F (E×Nat)}{code:bB->Nat}(hb:DE below) (hc:∀s,code s=0\/(6≤code s/\code s≤16)):∀(f:Nat) (e:E) (i:Nat) (e':E) (j:Nat),kH L below code f e i=.ok (e',j)->(TE e/\e≠.nil)->(TE e'/\e'≠.nil)/\i≤j/\wE e'≤wE e+(j-i):=by
 intro f
 induction f with
 | zero=>
  intro e i e' j h he
  rw[kH] at h
  injection h with h
  injection h with h1 h2
  subst h1;subst h2
  exact ⟨he,Nat.le_refl _,by omega⟩
 | succ f ih=>
  intro e i e' j h he
  rw[kH] at h
  split at h
  ·injection h with h
   injection h with h1 h2
   subst h1;subst h2
   exact ⟨he,Nat.le_refl _,by omega⟩
  ·rename_i hne
   split at h
   ·exact absurd h (by simp)
   ·rename_i r m hr
    obtain ⟨t1,t2,t3⟩:=hb _ _ _ hr
    have hcc:=hc (tx L i)
    have hte:TE (Kn (code (tx L i)) e r):=⟨show 1≤code (tx L i) by omega,show code (tx L i)≤16 by omega,⟨show (-9223372036854775808:Int)≤0 by omega,show (0:Int)≤9223372036854775807 by omega⟩,Nat.zero_le _,⟨fun h=>absurd (show code (tx L i)≤3 from h) (by omega),fun h=>absurd (show code (tx L i)≤5 from h) (by omega),fun _=>he.2,fun _=>t1.2⟩,he.1,t1.1⟩
    obtain ⟨q1,q2,q3⟩:=ih _ _ _ _ h ⟨hte,by simp[Kn]⟩
    rw[show wE (Kn (code (tx L i)) e r)=1+wE e+wE r from rfl] at q3
    exact ⟨q1,by omega,by omega⟩
theorem Wj {below:Nat->Except F (E×Nat)}{code:bB->Nat}(hb:DE below) (hc:∀s,code s=0\/(6≤code s/\code s≤16)):DE (yA L below code):=by
 intro i e j h
 rw[yA] at h
 split at h
 ·exact absurd h (by simp)
 ·rename_i e0 m hr
  obtain ⟨t1,t2,t3⟩:=hb _ _ _ hr
  obtain ⟨q1,q2,q3⟩:=Rz hb hc _ _ _ _ _ h t1
  exact ⟨q1,by omega,by omega⟩
theorem Xi {one:Nat->Except F (E×Nat)}(h:DE one):∀t,t≤5->DE (yQ L one t):=by
 intro t
 induction t with
 | zero=>intro _;exact h
 | succ t ih=>intro ht;rw[yQ];exact Wj (ih (by omega)) (I2 (4-t) (by omega))
theorem vG (s:bB):bG s=0\/bG s=4\/bG s=5:=by unfold bG;(repeat' split)<;>simp
theorem aD3 (hL:Wf L):∀k,DE (one L k):=by
 intro k
 induction k with
 | zero=>intro i e j h;rw[one] at h;exact absurd h (by simp)
 | succ k ih=>
  intro i e j h
  rw[one] at h
  split at h
  ·split at h
   ·exact absurd h (by simp)
   ·rename_i hne _ e0 m hr
    obtain ⟨t1,t2,t3⟩:=ih _ _ _ hr
    injection h with h
    injection h with h1 h2
    subst h1;subst h2
    have hcc:=vG (tx L i)
    refine ⟨⟨⟨show 1≤bG (tx L i) by omega,show bG (tx L i)≤16 by omega,⟨show (-9223372036854775808:Int)≤0 by omega,show (0:Int)≤9223372036854775807 by omega⟩,Nat.zero_le _,⟨fun h=>absurd (show bG (tx L i)≤3 from h) (by omega),fun _=>rfl,fun _=>t1.2,fun h=>absurd (show 6≤bG (tx L i) from h) (by omega)⟩,t1.1,trivial⟩,by simp[Ri]⟩,by omega,?_⟩
    rw[show wE (Ri (bG (tx L i)) e0)=1+wE e0+0 from rfl]
    omega
  ·split at h
   ·split at h
    ·exact absurd h (by simp)
    ·rename_i e0 m hr
     obtain ⟨t1,t2,t3⟩:=Xi ih 5 (Nat.le_refl _) _ _ _ hr
     split at h
     ·injection h with h
      injection h with h1 h2
      subst h1;subst h2
      exact ⟨t1,by omega,by omega⟩
     ·exact absurd h (by simp)
   ·split at h
    ·split at h
     ·split at h
      ·exact absurd h (by simp)
      ·rename_i s hs
       split at h
       ·injection h with h
        injection h with h1 h2
        subst h1;subst h2
        refine ⟨⟨⟨show 1≤3 by omega,show 3≤16 by omega,⟨show (-9223372036854775808:Int)≤0 by omega,show (0:Int)≤9223372036854775807 by omega⟩,tO hs,⟨fun _=>rfl,fun _=>rfl,fun h=>absurd (show 4≤3 from h) (by omega),fun h=>absurd (show 6≤3 from h) (by omega)⟩,trivial,trivial⟩,by simp[sM]⟩,by omega,?_⟩
        rw[show wE (sM 3 s)=1+0+0 from rfl];omega
       ·exact absurd h (by simp)
     ·exact absurd h (by simp)
    ·split at h
     ·rename_i hk
      injection h with h
      injection h with h1 h2
      subst h1;subst h2
      obtain ⟨n1,n2,n3⟩:=hL.num i hk
      have hv:=(nG (tx L i) n3 n1 n2).2
      have hp:(10:Nat) ^ 18=1000000000000000000:=by decide
      rw[hp] at hv
      refine ⟨⟨⟨show 1≤1 by omega,show 1≤16 by omega,⟨show (-9223372036854775808:Int)≤(val (tx L i):Int) by omega,show (val (tx L i):Int)≤9223372036854775807 by omega⟩,Nat.zero_le _,⟨fun _=>rfl,fun _=>rfl,fun h=>absurd (show 4≤1 from h) (by omega),fun h=>absurd (show 6≤1 from h) (by omega)⟩,trivial,trivial⟩,by simp[Wc]⟩,by omega,?_⟩
      rw[show wE (Wc (val (tx L i)))=1+0+0 from rfl];omega
     ·split at h
      ·exact absurd h (by simp)
      ·rename_i s hs
       injection h with h
       injection h with h1 h2
       subst h1;subst h2
       refine ⟨⟨⟨show 1≤2 by omega,show 2≤16 by omega,⟨show (-9223372036854775808:Int)≤0 by omega,show (0:Int)≤9223372036854775807 by omega⟩,tO hs,⟨fun _=>rfl,fun _=>rfl,fun h=>absurd (show 4≤2 from h) (by omega),fun h=>absurd (show 6≤2 from h) (by omega)⟩,trivial,trivial⟩,by simp[sM]⟩,by omega,?_⟩
       rw[show wE (sM 2 s)=1+0+0 from rfl];omega
theorem G9 (hL:Wf L):DE (eK L):=Xi (aD3 hL 7) 5 (Nat.le_refl _)
def wS:List iQ->Nat
 | []=>0
 | a::r=>1+wE a.e+wS r
def TS (l:List iQ):Prop:=∀a∈l,TE a.e/\a.name.length≤12
theorem pS (l m:List iQ):wS (l++m)=wS l+wS m:=by
 induction l with
 | nil=>simp[wS]
 | cons a r ih=>rw[List.cons_append,wS,wS,ih];omega
theorem Mb (l:List iQ):l.length≤wS l:=by
 induction l with
 | nil=>simp
 | cons a r ih=>rw[wS,List.length_cons];omega
theorem TS.app {l m:List iQ}(h:TS l) (h':TS m):TS (l++m):=fun a ha=>(List.mem_append.1 ha).elim (h a) (h' a)
theorem D4 (hL:Wf L):∀(f:Nat) (l:List iQ) (i:Nat) (l':List iQ) (j:Nat),sets L f l i=.ok (l',j)->TS l->TS l'/\i≤j/\wS l'≤wS l+(j-i):=by
 intro f
 induction f with
 | zero=>
  intro l i l' j h hl
  rw[sets] at h
  injection h with h
  injection h with h1 h2
  subst h1;subst h2
  exact ⟨hl,Nat.le_refl _,by omega⟩
 | succ f ih=>
  intro l i l' j h hl
  rw[sets] at h
  split at h
  ·exact absurd h (by simp)
  ·rename_i s hs
   split at h
   ·split at h
    ·exact absurd h (by simp)
    ·rename_i e m hr
     obtain ⟨t1,t2,t3⟩:=G9 hL _ _ _ hr
     have hl':TS (l++[⟨s,e⟩]):=hl.app (fun a ha=>by obtain rfl:=List.mem_singleton.1 ha;exact ⟨t1.1,tO hs⟩)
     have hw:wS (l++[⟨s,e⟩])=wS l+(1+wE e+0):=pS _ _
     split at h
     ·obtain ⟨q1,q2,q3⟩:=ih _ _ _ _ h hl'
      exact ⟨q1,by omega,by omega⟩
     ·injection h with h
      injection h with h1 h2
      subst h1;subst h2
      exact ⟨hl',by omega,by omega⟩
   ·exact absurd h (by simp)
def wW (y:Wy):Nat:=1+wE y.cond+wS y.sets
def TW (y:Wy):Prop:=y.kind≤2/\y.times≤1000/\TE y.cond/\TS y.sets/\y.to.length≤12
theorem Mi {i n:Nat}(h:times L i=.ok n):n≤1000:=by
 unfold times at h
 split at h
 ·exact absurd h (by simp)
 ·split at h
  ·exact absurd h (by simp)
  ·injection h with h;omega
theorem Zw (hL:Wf L) {i n j:Nat}{e:E}(h:cond L i=.ok (n,e,j)):n≤1000/\TE e/\i≤j/\wE e≤j-i:=by
 unfold cond at h
 split at h
 ·split at h
  ·split at h
   ·exact absurd h (by simp)
   ·rename_i n' hn
    split at h
    ·exact absurd h (by simp)
    ·rename_i e' m hr
     obtain ⟨t1,t2,t3⟩:=G9 hL _ _ _ hr
     injection h with h
     injection h with h1 h2
     injection h2 with h2 h3
     subst h1;subst h2;subst h3
     exact ⟨Mi hn,t1.1,by omega,by omega⟩
  ·split at h
   ·exact absurd h (by simp)
   ·rename_i e' m hr
    obtain ⟨t1,t2,t3⟩:=G9 hL _ _ _ hr
    injection h with h
    injection h with h1 h2
    injection h2 with h2 h3
    subst h1;subst h2;subst h3
    exact ⟨by omega,t1.1,by omega,by omega⟩
 ·injection h with h
  injection h with h1 h2
  injection h2 with h2 h3
  subst h1;subst h2;subst h3
  exact ⟨by omega,trivial,Nat.le_refl _,Nat.zero_le _⟩
theorem Zv (hL:Wf L) {i j:Nat}{l:List iQ}(h:fN L i=.ok (l,j)):TS l/\i≤j/\wS l≤j-i:=by
 unfold fN at h
 split at h
 ·obtain ⟨q1,q2,q3⟩:=D4 hL _ _ _ _ _ h (fun a ha=>absurd ha (by simp))
  rw[show wS []=0 from rfl] at q3
  exact ⟨q1,by omega,by omega⟩
 ·injection h with h
  injection h with h1 h2
  subst h1;subst h2
  exact ⟨fun a ha=>absurd ha (by simp),Nat.le_refl _,Nat.zero_le _⟩
theorem qN {i:Nat}{s:bB}(h:tx L i=s) (hs:s≠[]):i<L.length:=by
 rcases Nat.lt_or_ge i L.length with h'|h'
 ·exact h'
 ·exact absurd (by rw[<-h,tx,Hk,List.getD_eq_getElem?_getD,List.getElem?_eq_none h'];rfl) hs
theorem aB6 (hL:Wf L) {k i j:Nat}{y:Wy}(hk:k≤2) (h:sX L k i=.ok (y,j)):TW y/\i<j/\wW y≤j-i/\j≤L.length:=by
 unfold sX at h
 split at h
 ·exact absurd h (by simp)
 ·rename_i n e m hr
  obtain ⟨c1,c2,c3,c4⟩:=Zw hL hr
  split at h
  ·exact absurd h (by simp)
  ·rename_i l q hd
   obtain ⟨d1,d2,d3⟩:=Zv hL hd
   split at h
   ·split at h
    ·exact absurd h (by simp)
    ·rename_i s hs
     split at h
     ·rename_i ht
      have:=qN ht (by simp[eS])
      have o1:=pA L fW i
      have o2:=pA L fS (q+2)
      injection h with h
      injection h with h1 h2
      subst h1;subst h2
      refine ⟨⟨hk,c1,c2,d1,tO hs⟩,by omega,?_,by omega⟩
      show 1+wE e+wS l≤_
      omega
     ·exact absurd h (by simp)
   ·exact absurd h (by simp)
end
def fP {α:Type}(f:α->Nat):List α->Nat
 | []=>0
 | a::r=>f a+fP f r
theorem mA {α:Type}(f:α->Nat) (l m:List α):fP f (l++m)=fP f l+fP f m:=by
 induction l with
 | nil=>simp[fP]
 | cons a r ih=>rw[List.cons_append,fP,fP,ih];omega
theorem rR {α:Type}(f:α->Nat) (a:α):fP f [a]=f a:=by simp[fP]
section
variable {ρ:Type}
def wR (f:ρ->Nat) (r:List ρ):Nat:=1+fP f r
def kM (f:ρ->Nat) (s:cC ρ):Nat:=1+wS s.enter+wS s.during+wS s.leave+wE s.rests+fP wW s.ways+fP (wR f) s.regions
def yZ (T:ρ->Prop) (s:cC ρ):Prop:=s.name.length≤12/\TS s.enter/\TS s.during/\TS s.leave/\TE s.rests/\(∀y∈s.ways,TW y)/\∀r∈s.regions,∀x∈r,T x
end
def iW:(k:Nat)->St k->Nat
 | 0=>fun _=>1
 | k+1=>fun s=>kM (iW k) s
def Wr:(k:Nat)->St k->Prop
 | 0=>fun _=>True
 | k+1=>fun s=>yZ (Wr k) s
section
variable {L:List Lx.fK}{ρ:Type}
def DR (L:List Lx.fK) (T:ρ->Prop) (f:ρ->Nat) (reg:Nat->Nat->Except F (List ρ×Nat×Nat)):Prop:=∀c i l c' j,reg c i=.ok (l,c',j)->(∀x∈l,T x)/\i<j/\wR f l≤j-i/\j≤L.length
theorem D5 {i m:Nat}(h:oH L i=.ok m):m=i+1/\m≤L.length:=by
 unfold oH at h
 split at h
 ·rename_i ht
  have:=qN ht (by simp[eS])
  injection h with h;omega
 ·exact absurd h (by simp)
theorem Jg {s:bB}{k:Nat}(h:cX s=some k):k≤2:=by
 unfold cX at h
 split at h
 ·injection h with h;omega
 ·split at h
  ·injection h with h;omega
  ·split at h
   ·injection h with h;omega
   ·exact absurd h (by simp)
variable {T:ρ->Prop}{f:ρ->Nat}{reg:Nat->Nat->Except F (List ρ×Nat×Nat)}
theorem uE:TS []:=fun a ha=>absurd ha (by simp)
theorem Yf (hL:Wf L) (hr:DR L T f reg) {s s':cC ρ}{c i c' j:Nat}(h:eA L ρ reg s c i=.ok (some (s',c',j))) (hs:yZ T s):yZ T s'/\i<j/\kM f s'≤kM f s+(j-i)/\j≤L.length:=by
 obtain ⟨h0,h1,h2,h3,h4,h5,h6⟩:=hs
 rw[eA] at h
 split at h
 ·rename_i k hk
  split at h
  ·exact absurd h (by simp)
  ·rename_i y m hy
   obtain ⟨y1,y2,y3,y4⟩:=aB6 hL (Jg hk) hy
   injection h with h;injection h with h;injection h with e1 h;injection h with e2 e3
   subst e1;subst e2;subst e3
   refine ⟨⟨h0,h1,h2,h3,h4,fun z hz=>(List.mem_append.1 hz).elim (h5 z) (fun hz=>by rw[List.mem_singleton.1 hz];exact y1),h6⟩,by omega,?_,y4⟩
   have:=mA wW s.ways [y]
   rw[rR] at this
   simp only[kM]
   omega
 ·split at h
  ·split at h
   ·exact absurd h (by simp)
   ·rename_i l c1 m hy
    obtain ⟨y1,y2,y3,y4⟩:=hr _ _ _ _ _ hy
    injection h with h;injection h with h;injection h with e1 h;injection h with e2 e3
    subst e1;subst e2;subst e3
    refine ⟨⟨h0,h1,h2,h3,h4,h5,fun z hz=>(List.mem_append.1 hz).elim (h6 z) (fun hz=>by rw[List.mem_singleton.1 hz];exact y1)⟩,by omega,?_,y4⟩
    have:=mA (wR f) s.regions [l]
    rw[rR] at this
    simp only[kM]
    omega
  ·split at h
   ·split at h
    ·exact absurd h (by simp)
    ·rename_i l m hy
     obtain ⟨q1,q2,q3⟩:=D4 hL _ _ _ _ _ hy uE
     rw[show wS []=0 from rfl] at q3
     split at h
     ·exact absurd h (by simp)
     ·rename_i m2 hm
      have hm':=D5 hm
      injection h with h;injection h with h;injection h with e1 h;injection h with e2 e3
      subst e1;subst e2;subst e3
      refine ⟨⟨h0,h1.app q1,h2,h3,h4,h5,h6⟩,by omega,?_,hm'.2⟩
      have:=pS s.enter l
      simp only[kM]
      omega
   ·split at h
    ·split at h
     ·exact absurd h (by simp)
     ·rename_i l m hy
      obtain ⟨q1,q2,q3⟩:=D4 hL _ _ _ _ _ hy uE
      rw[show wS []=0 from rfl] at q3
      split at h
      ·exact absurd h (by simp)
      ·rename_i m2 hm
       have hm':=D5 hm
       injection h with h;injection h with h;injection h with e1 h;injection h with e2 e3
       subst e1;subst e2;subst e3
       refine ⟨⟨h0,h1,h2.app q1,h3,h4,h5,h6⟩,by omega,?_,hm'.2⟩
       have:=pS s.during l
       simp only[kM]
       omega
    ·split at h
     ·split at h
      ·exact absurd h (by simp)
      ·rename_i l m hy
       obtain ⟨q1,q2,q3⟩:=D4 hL _ _ _ _ _ hy uE
       rw[show wS []=0 from rfl] at q3
       split at h
       ·exact absurd h (by simp)
       ·rename_i m2 hm
        have hm':=D5 hm
        injection h with h;injection h with h;injection h with e1 h;injection h with e2 e3
        subst e1;subst e2;subst e3
        refine ⟨⟨h0,h1,h2,h3.app q1,h4,h5,h6⟩,by omega,?_,hm'.2⟩
        have:=pS s.leave l
        simp only[kM]
        omega
     ·split at h
      ·split at h
       ·rename_i he
        split at h
        ·exact absurd h (by simp)
        ·rename_i e m hy
         obtain ⟨q1,q2,q3⟩:=G9 hL _ _ _ hy
         split at h
         ·exact absurd h (by simp)
         ·rename_i m2 hm
          have hm':=D5 hm
          injection h with h;injection h with h;injection h with e1 h;injection h with e2 e3
          subst e1;subst e2;subst e3
          refine ⟨⟨h0,h1,h2,h3,q1.1,h5,h6⟩,by omega,?_,hm'.2⟩
          simp only[kM]
          omega
       ·exact absurd h (by simp)
      ·exact absurd h (by simp)
theorem Uh (hL:Wf L) (hr:DR L T f reg):∀(n:Nat) (s:cC ρ) (c i:Nat) (s':cC ρ) (c' j:Nat),parts L ρ reg n s c i=.ok (s',c',j)->yZ T s->i≤L.length->yZ T s'/\i≤j/\kM f s'≤kM f s+(j-i)/\j≤L.length:=by
 intro n
 induction n with
 | zero=>
  intro s c i s' c' j h hs hi
  rw[parts] at h
  injection h with h;injection h with e1 h;injection h with e2 e3
  subst e1;subst e2;subst e3
  exact ⟨hs,Nat.le_refl _,by omega,hi⟩
 | succ n ih=>
  intro s c i s' c' j h hs hi
  rw[parts] at h
  split at h
  ·exact absurd h (by simp)
  ·split at h
   ·rename_i ht
    have:=qN ht (by simp[jD])
    injection h with h;injection h with e1 h;injection h with e2 e3
    subst e1;subst e2;subst e3
    exact ⟨hs,by omega,by omega,by omega⟩
   ·exact absurd h (by simp)
  ·rename_i s1 c1 m hp
   obtain ⟨p1,p2,p3,p4⟩:=Yf hL hr hp hs
   obtain ⟨q1,q2,q3,q4⟩:=ih _ _ _ _ _ _ h p1 p4
   exact ⟨q1,by omega,by omega,q4⟩
theorem Ts (hL:Wf L) (hr:DR L T f reg) {fi la:Bool}{c i c' j:Nat}{s:cC ρ}(h:cJ L ρ reg fi la c i=.ok (s,c',j)):yZ T s/\i<j/\kM f s≤j-i/\j≤L.length:=by
 rw[cJ] at h
 split at h
 ·split at h
  ·exact absurd h (by simp)
  ·split at h
   ·exact absurd h (by simp)
   ·rename_i nm' hn
    have hz:yZ T (⟨nm',fi,la,[],[],[],.nil,[],[]⟩:cC ρ):=⟨tO hn,uE,uE,uE,trivial,fun y hy=>absurd hy (by simp),fun r hr=>absurd hr (by simp)⟩
    have hw:kM f (⟨nm',fi,la,[],[],[],.nil,[],[]⟩:cC ρ)=1:=rfl
    split at h
    ·rename_i ht
     have:=qN ht (by simp[eS])
     injection h with h;injection h with e1 h;injection h with e2 e3
     subst e1;subst e2;subst e3
     exact ⟨hz,by omega,by omega,by omega⟩
    ·split at h
     ·rename_i ht
      have:=qN ht (by simp[eT])
      obtain ⟨q1,q2,q3,q4⟩:=Uh hL hr _ _ _ _ _ _ _ h hz (by omega)
      exact ⟨q1,by omega,by omega,q4⟩
     ·exact absurd h (by simp)
 ·exact absurd h (by simp)
theorem Mq (hL:Wf L) (hr:DR L T f reg):∀(n:Nat) (l:List (cC ρ)) (c i:Nat) (l':List (cC ρ)) (c' j:Nat),states L ρ reg n l c i=.ok (l',c',j)->(∀x∈l,yZ T x)->i≤L.length->(∀x∈l',yZ T x)/\i≤j/\fP (kM f) l'≤fP (kM f) l+(j-i)/\j≤L.length:=by
 intro n
 induction n with
 | zero=>
  intro l c i l' c' j h hl hi
  rw[states] at h
  injection h with h;injection h with e1 h;injection h with e2 e3
  subst e1;subst e2;subst e3
  exact ⟨hl,Nat.le_refl _,by omega,hi⟩
 | succ n ih=>
  intro l c i l' c' j h hl hi
  rw[states] at h
  split at h
  ·split at h
   ·exact absurd h (by simp)
   ·rename_i s c1 m hs
    obtain ⟨p1,p2,p3,p4⟩:=Ts hL hr hs
    have o1:=pA L dO i
    have o2:=pA L gX (jU L dO i)
    obtain ⟨q1,q2,q3,q4⟩:=ih _ _ _ _ _ _ h (fun x hx=>(List.mem_append.1 hx).elim (hl x) (fun hx=>by rw[List.mem_singleton.1 hx];exact p1)) p4
    rw[mA,rR] at q3
    exact ⟨q1,by omega,by omega,q4⟩
  ·split at h
   ·rename_i ht
    have:=qN ht (by simp[jD])
    injection h with h;injection h with e1 h;injection h with e2 e3
    subst e1;subst e2;subst e3
    exact ⟨hl,by omega,by omega,by omega⟩
   ·exact absurd h (by simp)
end
theorem Nc {L:List Lx.fK}(hL:Wf L):∀k,DR L (Wr k) (iW k) (aU L k):=by
 intro k
 induction k with
 | zero=>intro c i l c' j h;rw[aU] at h;exact absurd h (by simp)
 | succ k ih=>
  intro c i l c' j h
  have h':@ite (Except F (List (cC (St k))×Nat×Nat)) (tx L i=eT) _ (states L (St k) (aU L k) L.length [] c (i+1)) (.error (3,pl L i))=.ok (l,c',j):=h
  by_cases ht:tx L i=eT
  ·rw[if_pos ht] at h'
   have:=qN ht (by simp[eT])
   obtain ⟨q1,q2,q3,q4⟩:=Mq hL ih _ _ _ _ _ _ _ h' (fun x hx=>absurd hx (by simp)) (by omega)
   refine ⟨q1,by omega,?_,q4⟩
   rw[show fP (kM (iW k)) []=0 from rfl] at q3
   show 1+fP (kM (iW k)) l≤_
   omega
  ·rw[if_neg ht] at h'
   exact absurd h' (by simp)
section
variable {L:List Lx.fK}
def TD (v:bJ):Prop:=(1≤v.kind/\v.kind≤3/\-9223372036854775808≤v.first/\v.first≤9223372036854775807)/\v.name.length≤12
theorem V8 (hL:Wf L) {i n:Nat}(h:bM L i=.ok n):n<1000000000000000000:=by
 unfold bM at h
 split at h
 ·rename_i hk
  obtain ⟨n1,n2,n3⟩:=hL.num i hk
  have hv:=(nG (tx L i) n3 n1 n2).2
  have hp:(10:Nat) ^ 18=1000000000000000000:=by decide
  rw[hp] at hv
  injection h with h
  omega
 ·exact absurd h (by simp)
theorem Vx (hL:Wf L) {i j:Nat}{n:Int}(h:first L i=.ok (n,j)):-9223372036854775808≤n/\n≤9223372036854775807/\i≤j:=by
 unfold first at h
 split at h
 ·split at h
  ·split at h
   ·exact absurd h (by simp)
   ·rename_i q hq
    have:=V8 hL hq
    injection h with h;injection h with e1 e2
    subst e1;subst e2
    exact ⟨by omega,by omega,by omega⟩
  ·split at h
   ·exact absurd h (by simp)
   ·rename_i q hq
    have:=V8 hL hq
    injection h with h;injection h with e1 e2
    subst e1;subst e2
    exact ⟨by omega,by omega,by omega⟩
 ·injection h with h;injection h with e1 e2
  subst e1;subst e2
  exact ⟨by omega,by omega,by omega⟩
theorem Jj (s:bB):dV s≤3:=by unfold dV;(repeat' split)<;>omega
theorem Bf (hL:Wf L) {k i j:Nat}{v:bJ}(h1:1≤k) (h3:k≤3) (h:cZ L k i=.ok (v,j)):TD v/\i<j/\j≤L.length:=by
 unfold cZ at h
 split at h
 ·exact absurd h (by simp)
 ·rename_i s hs
  split at h
  ·exact absurd h (by simp)
  ·rename_i n m hf
   obtain ⟨f1,f2,f3⟩:=Vx hL hf
   split at h
   ·rename_i ht
    have:=qN ht (by simp[eS])
    injection h with h;injection h with e1 e2
    subst e1;subst e2
    exact ⟨⟨⟨h1,h3,f1,f2⟩,tO hs⟩,by omega,by omega⟩
   ·exact absurd h (by simp)
theorem Vi (hL:Wf L):∀(n:Nat) (vs:List bJ) (rs:List (List (St 6))) (c i:Nat) (vs':List bJ) (rs':List (List (St 6))) (j:Nat),jW L n vs rs c i=.ok (vs',rs',j)->(∀v∈vs,TD v)->(∀r∈rs,∀x∈r,Wr 6 x)->i≤L.length->
    (∀v∈vs',TD v)/\(∀r∈rs',∀x∈r,Wr 6 x)/\i≤j/\vs'.length+fP (wR (iW 6)) rs'≤vs.length+fP (wR (iW 6)) rs+(j-i)/\j≤L.length:=by
 intro n
 induction n with
 | zero=>
  intro vs rs c i vs' rs' j h hv hr hi
  rw[jW] at h
  injection h with h;injection h with e1 h;injection h with e2 e3
  subst e1;subst e2;subst e3
  exact ⟨hv,hr,Nat.le_refl _,by omega,hi⟩
 | succ n ih=>
  intro vs rs c i vs' rs' j h hv hr hi
  rw[jW] at h
  split at h
  ·rename_i hk
   split at h
   ·exact absurd h (by simp)
   ·split at h
    ·exact absurd h (by simp)
    ·rename_i v m hd
     obtain ⟨p1,p2,p3⟩:=Bf hL (by omega) (Jj _) hd
     obtain ⟨q1,q2,q3,q4,q5⟩:=ih _ _ _ _ _ _ _ h (fun x hx=>(List.mem_append.1 hx).elim (hv x) (fun hx=>by rw[List.mem_singleton.1 hx];exact p1)) hr p3
     rw[List.length_append,List.length_singleton] at q4
     exact ⟨q1,q2,by omega,by omega,q5⟩
  ·split at h
   ·split at h
    ·exact absurd h (by simp)
    ·rename_i l c1 m hd
     obtain ⟨p1,p2,p3,p4⟩:=Nc hL 6 _ _ _ _ _ hd
     obtain ⟨q1,q2,q3,q4,q5⟩:=ih _ _ _ _ _ _ _ h hv (fun x hx=>(List.mem_append.1 hx).elim (hr x) (fun hx=>by rw[List.mem_singleton.1 hx];exact p1)) p4
     rw[mA,rR] at q4
     exact ⟨q1,q2,by omega,by omega,q5⟩
   ·split at h
    ·rename_i ht
     have:=qN ht (by simp[jD])
     injection h with h;injection h with e1 h;injection h with e2 e3
     subst e1;subst e2;subst e3
     exact ⟨hv,hr,by omega,by omega,by omega⟩
    ·exact absurd h (by simp)
theorem rS {α:Type}(g:α->Nat) (l:List α) (z:α) (hz:z∈l):g z≤fP g l:=by
 induction l with
 | nil=>exact absurd hz (by simp)
 | cons b q ihq=>
  rw[fP]
  rcases List.mem_cons.1 hz with rfl|hz
  ·omega
  ·have:=ihq hz;omega
theorem I6 (hL:Wf L) {c:fU}(h:dH L=.ok c):(∀v∈c.vars,TD v)/\(∀r∈c.regions,∀x∈r,Wr 6 x)/\c.vars.length+fP (wR (iW 6)) c.regions≤601:=by
 unfold dH at h
 split at h
 ·split at h
  ·exact absurd h (by simp)
  ·rename_i s hs
   split at h
   ·rename_i ht
    have h2:=qN ht (by simp[eT])
    split at h
    ·exact absurd h (by simp)
    ·rename_i vs rs i hi
     obtain ⟨q1,q2,q3,q4,q5⟩:=Vi hL _ _ _ _ _ _ _ _ hi (fun v hv=>absurd hv (by simp)) (fun v hv=>absurd hv (by simp)) (by omega)
     rw[show fP (wR (iW 6)) []=0 from rfl,List.length_nil] at q4
     have h6:=hL.len
     split at h
     ·injection h with h
      subst h
      exact ⟨q1,q2,by show vs.length+fP (wR (iW 6)) rs≤601;omega⟩
     ·exact absurd h (by simp)
   ·exact absurd h (by simp)
 ·exact absurd h (by simp)
end
end Sh
end Px
end
section
open Go.RowKit Px
theorem Tryz.isAtAny (v:Value) (w:World):(Instr.typeAssert (.iface 115 v) 20 115 true).run Tryz.prog w=.ok (.tuple #[v,.bool true]) w:=by kernel_rfl
theorem Ek (cb eb:Addr) (w:World) :
    CallsD Tryz.prog 89 #[.pointer (some cb),.pointer (some eb)] .returning w fun e u' w'=>e=.returned (.tuple #[])/\u'=.returning/\w'=w:=by
 refine callsD_of_wpS Tryz.func89 rfl fun c₀ cs hu=>?_
 apply wpS_seq
 apply wpS_region
 simp[wpOpsS,go_sem,recoverD,hu,Tryz.ntmps89,Exit.thenS]
 apply wpS_of_wp
 go_wp2
 cases c₀
 simp_all [bodyPostS,results,Tryz.results89]
end
end Go.Proofs.YtcdbhoknhnimcaaGreatDoor
