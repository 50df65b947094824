import Derived.Test.YtpogmfliojcnjaaGreatDoorSKq
import Derived.Test.YtpogmfliojcnjaaGreatDoorSSmall
import Derived.Test.YtpogmfliojcnjaaGreatDoorSCr
import Derived.Lib.ItoaNum
namespace Go.Proofs.YtpogmfliojcnjaaGreatDoor
section
open Go.RowKit Px
namespace Kx
theorem Rows.of_map {α β:Type}{R:β->List Value->Prop}{R':α->List Value->Prop}{f:α->β}:∀{l:List α}{xs:List Value},(∀a∈l,∀c,R (f a) c->R' a c)->Rows R (l.map f) xs->Rows R' l xs:=by
 intro l
 induction l with
 | nil=>intro xs _ h;exact h
 | cons a r ih=>
  intro xs hR h
  obtain ⟨c,ys,rfl,hc,hr⟩:=h
  exact ⟨c,ys,rfl,hR a (by simp) c hc,ih (fun b hb=>hR b (by simp[hb])) hr⟩
theorem sumW_len {α:Type}{f:α->Nat}(hf:∀a,1≤f a):∀l:List α,l.length≤Sh.sumW f l:=by
 intro l
 induction l with
 | nil=>simp[Sh.sumW]
 | cons a r ih=>rw[List.length_cons,Sh.sumW];have:=hf a;omega
theorem isStates_zero {A:Nat->Prop}{w:World}{l:List (St 0)}{v:Value}(h:IsStates A w 0 l v):l=[]/\v=.slice none 0 0:=h
theorem ren_zero:RenOk 0:=by
 intro A w L v hI _ hw
 have hlen:L.length≤601:=Nat.le_trans (sumW_len (f:=Sh.wR (Sh.wSt 0)) (fun a=>by unfold Sh.wR;omega) L) hw
 obtain ⟨ad,g,cap,rfl,h1,h2,h3⟩:=hI.len
 have hnil:∀r∈L,r=[]:=fun r hr=>by
  obtain ⟨i,hi⟩:=List.getElem?_of_mem hr
  obtain ⟨u,_,hS⟩:=h3 i r hi
  exact (isStates_zero hS).1
 have kp:Keep (fun b=>(A b/\b<w.heap.size)\/w.heap.size≤b) (fun b=>A b\/w.heap.size≤b) w w:=fun b hb _=>⟨by rcases hb with h|h;exact .inl h.1;exact .inr h,rfl⟩
 have hc:=ren_at (ρ:=Unit) (A:=fun b=>A b/\b<w.heap.size) (w:=w) (fr:=id) (J:=fun _ _ _ _=>True) (fun _ _ _ _=>trivial) (fun b hb=>hb.2) (ad:=ad) (N:=L.length) (cap:=cap) (L:=L.map fun _=>([]:List (StF Unit))) (by rw[Hid,List.length_map]) (by omega)
  ⟨g,fun hp=>(h2 hp).1,fun i r hi=>by
   rw[List.getElem?_map] at hi
   cases hL:L[i]? with
   | none=>rw[hL] at hi;simp at hi
   | some q=>
    rw[hL] at hi
    simp at hi
    subst hi
    obtain ⟨u,hu,hS⟩:=h3 i q hL
    obtain ⟨rfl,rfl⟩:=isStates_zero hS
    exact ⟨none,0,hu,0,fun h=>absurd h (by simp),by simp,fun i s h=>absurd h (by simp)⟩⟩
 refine hc.mono ?_
 rintro e w' ⟨a,n,m,rfl,h⟩
 obtain ⟨⟨xs,hr,hs⟩,hb⟩:=h.out
 refine ⟨a,n,m,rfl,⟨xs,?_,?_⟩,hb⟩
 ·rw[List.length_map] at hr ⊢
  exact hr.carry fun b hb _=>⟨by rcases hb with h|h;exact .inl h.1;exact .inr h,rfl⟩
 ·rw[show L.map (renR 0)=L from List.map_id'' (fun _=>rfl) L]
  rw[List.map_map] at hs
  refine Rows.of_map (fun r hr c hc=>?_) hs
  obtain ⟨u,hcu,hu⟩:=hc
  exact ⟨u,hcu,hnil r hr,hu.2 rfl⟩
theorem ren_succ (k:Nat) (ih:RenOk k):RenOk (k+1):=by
 intro A w L v hI hT hw
 have hlen:L.length≤601:=Nat.le_trans (sumW_len (f:=Sh.wR (Sh.wSt (k+1))) (fun a=>by unfold Sh.wR;omega) L) hw
 have kA:Keep A (fun b=>A b/\b<w.heap.size) w w:=fun b hb hlt=>⟨⟨hb,hlt⟩,rfl⟩
 have hI:=hI.carry kA (IsStates.carry kA (k+1))
 obtain ⟨ad,g,cap,rfl,h1,h2,h3⟩:=hI.len
 have hc:=ren_at (ρ:=St k) (A:=fun b=>A b/\b<w.heap.size) (w:=w) (fr:=renR k) (J:=fun A w=>IsStates A w k) (fun kp l v h=>IsStates.carry kp k l v h) (fun b hb=>hb.2) (ad:=ad) (N:=L.length) (cap:=cap) (L:=L) rfl (by omega)
  ⟨g,fun hp=>(h2 hp).1,fun i r hi=>by
   have hm:=List.mem_of_getElem? hi
   obtain ⟨u,hu,hS⟩:=h3 i r hi
   obtain ⟨a,gr,c,rfl,r1,r2,r3⟩:=IsStates.open hS
   have hwr:1+Sh.sumW (Sh.wSt (k+1)) r≤601:=Nat.le_trans (Sh.sumW_mem (Sh.wR (Sh.wSt (k+1))) L r hm) hw
   have hrl:List.length r≤Sh.sumW (Sh.wSt (k+1)) r:=sumW_len (f:=Sh.wSt (k+1)) (fun s=>by show 1≤Sh.wStF (Sh.wSt k) s;unfold Sh.wStF;omega) r
   refine ⟨a,c,hu,gr,fun hp=>(r2 hp).1,by omega,fun i s hi'=>?_⟩
   have hms:=List.mem_of_getElem? hi'
   obtain ⟨ve,vd,vl,p,ay,ar,gy,capy,capr,hM,hR⟩:=r3 i s hi'
   have hws:Sh.wStF (Sh.wSt k) s≤Sh.sumW (Sh.wSt (k+1)) r:=Sh.sumW_mem (Sh.wSt (k+1)) r s hms
   unfold Sh.wStF at hws
   have hwy:s.ways.length≤Sh.sumW Sh.wW s.ways:=sumW_len (fun y=>by unfold Sh.wW;omega) _
   obtain ⟨t0,t1,t2,t3,t4,t5,t6⟩:=hT r hm s hms
   refine ⟨ve,vd,vl,p,ay,ar,gy,capy,capr,hM,t0,fun y hy=>(t5 y hy).2.2.2.2,by omega,fun w' hb'=>?_⟩
   have kp:Keep (fun b=>A b/\b<w.heap.size) (fun b=>A b/\b<w.heap.size) w w':=fun b ha hlt=>⟨ha,hb'.block b hlt⟩
   exact ih _ w' s.regions _ (hR.carry kp (IsStates.carry kp k)) t6 (by omega)⟩
 refine hc.mono ?_
 rintro e w' ⟨a,n,m,rfl,h⟩
 obtain ⟨⟨xs,hr,hs⟩,hb⟩:=h.out
 have k2:Keep (fun b=>(A b/\b<w.heap.size)\/w.heap.size≤b) (fun b=>A b\/w.heap.size≤b) w' w':=fun b hb _=>⟨by rcases hb with h|h;exact .inl h.1;exact .inr h,rfl⟩
 refine ⟨a,n,m,rfl,⟨xs,?_,?_⟩,hb⟩
 ·rw[List.length_map]
  exact hr.carry k2
 ·refine Rows.map (fun r c hc=>?_) hs
  obtain ⟨u,hcu,hu⟩:=hc
  exact ⟨u,hcu,IsStates.carry k2 (k+1) r u hu.1⟩
theorem ren_all:∀k,RenOk k
 | 0=>ren_zero
 | k+1=>ren_succ k (ren_all k)
end Kx
end
section
open Go.RowKit Px
namespace Kx
def LongReg {ρ:Type}(w:World) (r:List (StF ρ)) (a:Option Addr):Prop:=
 ∃gr,(0<r.length->a=some ⟨gr,0,none⟩)/\r.length≤1000000/\∀i s,r[i]?=some s->∃c1 c2 ve vd vl p ay gy capy ar n capr,w.cell? ⟨gr,i*9,none⟩=some (sv s.name)/\w.cell? ⟨gr,i*9+1,none⟩=some (.bool c1)/\w.cell? ⟨gr,i*9+2,none⟩=some (.bool c2)/\
  w.cell? ⟨gr,i*9+3,none⟩=some ve/\w.cell? ⟨gr,i*9+4,none⟩=some vd/\w.cell? ⟨gr,i*9+5,none⟩=some vl/\w.cell? ⟨gr,i*9+6,none⟩=some (.pointer p)/\w.cell? ⟨gr,i*9+7,none⟩=some (.slice ay s.ways.length capy)/\w.cell? ⟨gr,i*9+8,none⟩=some (.slice ar n capr)/\
  (∃a b c,ve=.slice a b c)/\(∃a b c,vd=.slice a b c)/\(∃a b c,vl=.slice a b c)/\s.ways.length≤1000000/\(0<s.ways.length->ay=some ⟨gy,0,none⟩)/\WaysAt w gy s.ways/\
  ∀w',Below w.heap.size w w'->Calls Tryz.prog 27 #[.slice ar n capr] w' fun e w''=>∃b,e=.returned (.bool b)/\Hid (Below w'.heap.size w' w'')
set_option maxRecDepth 100000 in
set_option maxHeartbeats 4000000 in
theorem long_at {ρ:Type}{w:World}{ad:Option Addr}{N cap:Nat}{L:List (List (StF ρ))}(hn:Hid (N=L.length)) (hNm:N≤maxLen)
    (hmem:Hid (∃g,(0<N->ad=some ⟨g,0,none⟩)/\∀i r,L[i]?=some r->∃a c,w.cell? ⟨g,i,none⟩=some (.slice a r.length c)/\LongReg w r a)) :
    Calls Tryz.prog 27 #[.slice ad N cap] w fun e w'=>∃b,e=.returned (.bool b)/\Hid (Below w.heap.size w w'):=by
 have hN6:(N:Int)≤9223372036854775807:=by unfold maxLen at hNm;omega
 clear hNm
 go_enter Tryz.func27,Tryz.ntmps27
 go_wp2_with fail
 go_loopg [3] N (fun f i wr=>∃k:Nat,f=N-k/\k≤N/\i=.int .i64 (k:Int)/\Hid (Below w.heap.size w wr))
 case atStart=>exact ⟨0,by omega,by omega,rfl,Below.refl _ _⟩
 case round=>
  obtain ⟨k,rfl,hk,rfl,hr⟩:=hrel
  by_cases hlt:k<N
  ·obtain ⟨r,hs⟩:∃r,L[k]?=some r:=⟨L[k]'(by rw[<-hn.out];exact hlt),by rw[List.getElem?_eq_getElem]⟩
   obtain ⟨g,hg,hg2⟩:=hmem.out
   obtain ⟨a,c,hcell,gr,ha,hlen,hin⟩:=hg2 k r hs
   have hix:=ixR ad g N cap k hlt hg
   obtain ⟨n,hnr⟩:∃n,n=r.length:=⟨_,rfl⟩
   rw[<-hnr] at hcell ha hlen
   have HC:Hid (w.cell? ⟨g,k,none⟩=some (.slice a n c)):=hcell
   have HNR:Hid (n=r.length):=hnr
   have HIN:Hid (∀i s,r[i]?=some s->_):=hin
   have HA:Hid (0<n->a=some ⟨gr,0,none⟩):=ha
   have HB0:Hid (Below w.heap.size w wr):=hr.out
   clear hr hs hg hg2 hcell ha hin hnr
   go_wp2_with fail
   go_loopg [4] n (fun f i wr=>∃p:Nat,f=n-p/\p≤n/\i=.int .i64 (p:Int)/\Hid (Below w.heap.size w wr))
   case atStart=>exact ⟨0,by omega,by omega,rfl,HB0.out⟩
   case round=>
    obtain ⟨p,rfl,hp,rfl,hr⟩:=hrel
    have cc:=ck_cell hr.out HC.out
    by_cases hlt2:p<n
    ·obtain ⟨s,hs⟩:∃s,r[p]?=some s:=⟨r[p]'(by rw[<-HNR.out];exact hlt2),by rw[List.getElem?_eq_getElem]⟩
     obtain ⟨d1,d2,ve,vd,vl,pp,ay,gy,capy,ar,nr,capr,c0,c1,c2,c3,c4,c5,c6,c7,c8,⟨v1,v2,v3,rfl⟩,⟨v4,v5,v6,rfl⟩,⟨v7,v8,v9,rfl⟩,hw1,hw2,hw3,hcl⟩:=HIN.out p s hs
     obtain ⟨S,hS⟩:∃S,Value.string S=sv s.name:=⟨_,rfl⟩
     obtain ⟨M,hM⟩:∃M,M=s.ways.length:=⟨_,rfl⟩
     rw[<-hS] at c0
     rw[<-hM] at c7 hw1 hw2
     have hit:=ixT a gr n c p hlt2 HA.out
     have c0:=ck_cell hr.out c0
     have c1:=ck_cell hr.out c1
     have c2:=ck_cell hr.out c2
     have c3:=ck_cell hr.out c3
     have c4:=ck_cell hr.out c4
     have c5:=ck_cell hr.out c5
     have c6:=ck_cell hr.out c6
     have c7:=ck_cell hr.out c7
     have c8:=ck_cell hr.out c8
     obtain ⟨X,hX⟩:∃X,X=wr.alloc (.cells #[.string S,.bool d1,.bool d2,.slice v1 v2 v3,.slice v4 v5 v6,.slice v7 v8 v9,.pointer pp,.slice ay M capy,.slice ar nr capr] 69):=⟨_,rfl⟩
     have hk:=ck_new wr (.cells #[.string S,.bool d1,.bool d2,.slice v1 v2 v3,.slice v4 v5 v6,.slice v7 v8 v9,.pointer pp,.slice ay M capy,.slice ar nr capr] 69)
     rw[<-hX] at hk
     have z0:=cell_row hk 0 (u:=.string S) rfl
     have z8:=cell_row hk 8 (u:=.slice ar nr capr) rfl
     have HBX:Hid (Below w.heap.size w X):=by rw[hX];exact ck_all hr.out (ck_grown _ _)
     have HK:Hid (X.heap[wr.heap.size]?=some (.cells #[.string S,.bool d1,.bool d2,.slice v1 v2 v3,.slice v4 v5 v6,.slice v7 v8 v9,.pointer pp,.slice ay M capy,.slice ar nr capr] 69 (0,0))):=hk
     have HW:Hid (M=s.ways.length/\(0<M->ay=some ⟨gy,0,none⟩)/\WaysAt w gy s.ways):=⟨hM,hw2,hw3⟩
     have hcall:=hcl X HBX.out
     have HXE:Hid (X=_):=hX
     rw[hX] at z0 z8 hcall
     clear hr hs hS hM hw2 hw3 hcl hX hk
     by_cases h12:(12:Int)≤(S.size:Int)
     ·go_wp2_with fail
      go_ret
      exact ⟨_,rfl,by rw[<-HXE.out];exact HBX.out⟩
     ·go_wp2_with fail
      clear cc hix hit c0 c1 c2 c3 c4 c5 c6 c7 c8 z0 z8
      refine hcall.mono ?_
      rintro e w3 ⟨b,rfl,hb3⟩
      have HB3:Hid (Below w.heap.size w w3/\w3.heap[wr.heap.size]?=some (.cells #[.string S,.bool d1,.bool d2,.slice v1 v2 v3,.slice v4 v5 v6,.slice v7 v8 v9,.pointer pp,.slice ay M capy,.slice ar nr capr] 69 (0,0))):=by
       have:=hb3.out
       rw[<-HXE.out] at this
       exact ⟨ck_all HBX.out this,ck_block this HK.out⟩
      clear hcall hb3 HBX HK HXE
      cases b with
      | true=>
       go_wp2_with fail
       go_ret
       exact ⟨_,rfl,HB3.out.1⟩
      | false=>
       obtain ⟨q,hq⟩:∃q,q=wr.heap.size:=⟨_,rfl⟩
       rw[<-hq] at HB3 ⊢
       clear hq
       go_wp2_with fail
       go_loopg [6] M (fun f i wr=>∃m:Nat,f=M-m/\m≤M/\i=.int .i64 (m:Int)/\wr=w3)
       case atStart=>exact ⟨0,by omega,by omega,rfl,rfl⟩
       case round=>
        obtain ⟨m,rfl,hm,rfl,rfl⟩:=hrel
        have z7:=cell_row HB3.out.2 7 (u:=.slice ay M capy) rfl
        by_cases hltm:m<M
        ·obtain ⟨y,hy⟩:∃y,s.ways[m]?=some y:=⟨s.ways[m]'(by rw[<-HW.out.1];exact hltm),by rw[List.getElem?_eq_getElem]⟩
         have hiw:=ixW ay gy M capy m hltm HW.out.2.1
         obtain ⟨_,_,_,_,_,_,_,y5,_⟩:=HW.out.2.2 m y hy
         obtain ⟨T,hT⟩:∃T,Value.string T=sv y.to:=⟨_,rfl⟩
         rw[<-hT] at y5
         have y5:=ck_cell HB3.out.1 y5
         clear hy hT
         by_cases h13:(12:Int)≤(T.size:Int)
         ·go_wp2_with fail
          go_ret
          exact ⟨_,rfl,HB3.out.1⟩
         ·go_wp2_with fail
          go_roundg (M-(m+1))
          case measure=>omega
          case rel=>exact ⟨m+1,rfl,by omega,by go_num,rfl⟩
        ·obtain rfl:M=m:=by omega
         go_wp2_with fail
         go_roundg (n-(p+1))
         case measure=>omega
         case rel=>exact ⟨p+1,rfl,by omega,by go_num,HB3.out.1⟩
    ·obtain rfl:n=p:=by omega
     have HB1:Hid (Below w.heap.size w wr):=hr.out
     clear hr
     go_wp2_with fail
     go_roundg (N-(k+1))
     case measure=>omega
     case rel=>exact ⟨k+1,rfl,by omega,by go_num,HB1.out⟩
  ·obtain rfl:k=N:=by omega
   go_wp2_with fail
   go_ret
   exact ⟨_,rfl,hr.out⟩
theorem long_all {A:Nat->Prop}:∀(k:Nat) (w:World) (L:List (List (St k))) (v:Value),IsRegs A w (IsStates A w k) L v->(∀r∈L,∀x∈r,NmSt k x)->sumC (cRg k) L≤1000000->
    Calls Tryz.prog 27 #[v] w fun e w'=>∃b,e=.returned (.bool b)/\Hid (Below w.heap.size w w'):=by
 intro k
 induction k with
 | zero=>
  intro w L v hI _ _
  obtain ⟨ad,g,cap,rfl,h1,h2,h3⟩:=hI.len
  refine long_at (ρ:=Unit) (L:=L.map fun _=>[]) (by rw[Hid,List.length_map]) h1 ⟨g,fun hp=>(h2 hp).1,fun i r hi=>?_⟩
  rw[List.getElem?_map] at hi
  cases hL:L[i]? with
  | none=>rw[hL] at hi;simp at hi
  | some q=>
   rw[hL] at hi
   simp at hi
   subst hi
   obtain ⟨u,hu,hS⟩:=h3 i q hL
   obtain ⟨rfl,rfl⟩:=hS
   exact ⟨none,0,hu,0,fun h=>absurd h (by simp),by simp,fun i s h=>absurd h (by simp)⟩
 | succ k ih=>
  intro w L v hI hN hb
  obtain ⟨ad,g,cap,rfl,h1,h2,h3⟩:=hI.len
  refine long_at (ρ:=St k) (L:=L) rfl h1 ⟨g,fun hp=>(h2 hp).1,fun i r hi=>?_⟩
  have hm:=List.mem_of_getElem? hi
  obtain ⟨u,hu,hS⟩:=h3 i r hi
  obtain ⟨a,gr,c,rfl,r1,r2,r3⟩:=IsStates.open hS
  have hbr:sumC (fun x=>1+cIn (k+1) x) r≤1000000:=Nat.le_trans (sumC_mem (cRg (k+1)) hm) hb
  have hl:List.length r≤1000000:=Nat.le_trans (sumC_len (fun x=>cIn (k+1) x) r) hbr
  have hst:StsAt w gr r:=StM.sts (A:=A) (fun hp=>(r2 hp).2) (fun i s hi=>by obtain ⟨e1,e2,e3,e4,e5,e6,e7,e8,e9,h,_⟩:=r3 i s hi;exact ⟨e1,e2,e3,e4,e5,e6,e7,e8,e9,h⟩) (fun s hs=>(hN r hm s hs).1)
  refine ⟨a,c,hu,gr,fun hp=>(r2 hp).1,hl,fun i s hi'=>?_⟩
  have hms:=List.mem_of_getElem? hi'
  obtain ⟨ve,vd,vl,p,ay,ar,gy,capy,capr,hM,hR⟩:=r3 i s hi'
  obtain ⟨_,_,_,_,hw,ay',gy',capy',q7,q8,q9⟩:=hst i s hi'
  have e:=hM.c7
  rw[q7] at e
  injection e with e
  injection e with e1 e2 e3
  subst e1;subst e3
  refine ⟨s.first,s.last,ve,vd,vl,p,ay',gy',capy',ar,s.regions.length,capr,hM.c0,hM.c1,hM.c2,hM.c3,hM.c4,hM.c5,hM.c6,hM.c7,hM.c8,hM.he.sl',hM.hd.sl',hM.hl.sl',hw,fun hp=>(q8 hp).1,q9,fun w' hb'=>?_⟩
  have kp:Keep A A w w':=fun b ha hlt=>⟨ha,hb'.block b hlt⟩
  refine ih w' s.regions _ (hR.carry kp (IsStates.carry kp k)) ((hN r hm s hms).2) ?_
  have hx:1+cIn (k+1) s≤sumC (fun x=>1+cIn (k+1) x) r:=sumC_mem (fun x=>1+cIn (k+1) x) hms
  have hc:cIn (k+1) s=sumC (cRg k) s.regions:=rfl
  omega
end Kx
end
section
namespace Px
open Go.Lib
def padT (n:Nat):Str:=List.replicate (2*n) 32
theorem padT_succ (n:Nat):padT (n+1)=padT n++[32,32]:=by
 rw[padT,padT,show 2*(n+1)=2*n+2 by omega,<-List.replicate_append_replicate];rfl
theorem padT_len (n:Nat):(padT n).length=2*n:=by simp[padT]
def line (c:Nat):Nat:=if c=16 then 1 else if c=15 then 2 else if c=11\/c=12\/c=13\/c=14 then 3 else if c=6\/c=7 then 4 else if c=8\/c=9\/c=10 then 5 else 6
def signT (c:Nat):Str:=if c=16 then [124,124] else if c=15 then [38,38] else if c=11 then [61,61] else if c=12 then [33,61] else if c=13 then [60] else if c=14 then [60,61] else if c=6 then [43] else if c=7 then [45] else if c=8 then [42] else if c=9 then [47] else [37]
def aheadT (c:Nat):Str:=if c=4 then [45] else if c=5 then [33] else []
def brack (b:Bool) (s:Str):Str:=if b then [40]++s++[41] else s
def exprT:E->Nat->Str
 | .nil,_=>[]
 | .node _ _ a l r,least=>
  if a.code=1 then itoa a.num
  else if a.code=2 then a.name
  else if a.code=3 then [112,114,101,40]++a.name++[41]
  else if a.code=4\/a.code=5 then aheadT a.code++exprT l 6
  else brack (decide (line a.code<least)) (exprT l (line a.code)++[32]++signT a.code++[32]++exprT r (line a.code+1))
def setT (a:Asg):Str:=a.name++[32,58,61,32]++exprT a.e 0
def setsT:List Asg->Str
 | []=>[]
 | a::r=>setT a++r.flatMap (fun b=>[44,32]++setT b)
theorem setsT_snoc (l:List Asg) (a:Asg):setsT (l++[a])=setsT l++(if l=[] then [] else [44,32])++setT a:=by
 cases l with
 | nil=>simp[setsT]
 | cons b r=>simp[setsT,List.flatMap_append]
def leadT (k:Nat):Str:=if k=1 then kAbort else if k=2 then kJoin else kGo
def condT (y:Wy):Str:=
 match y.cond with
 | .nil=>[]
 | .node b o a l r=>[32,105,102,32]++(if 1<y.times then [99,111,117,110,116,32]++itoa y.times++[32] else [])++exprT (.node b o a l r) 0
def doesT (l:List Asg):Str:=if l=[] then [] else [32,100,111,32]++setsT l
def wayT (y:Wy):Str:=
 leadT y.kind++(if y.now then [32,105,109,109,101,100,105,97,116,101] else [])++condT y++doesT y.sets++[32,45,45,62,32]++y.to++(if y.back then [32,104,105,115,116,111,114,121] else [])++[59]
def momT (d:Nat) (word:Str) (l:List Asg):Str:=if l=[] then [] else padT d++word++setsT l++[59,10]
def restT (d:Nat) (e:E):Str:=
 match e with
 | .nil=>[]
 | .node b o a l r=>padT d++[115,117,115,112,101,110,100,32]++exprT (.node b o a l r) 0++[59,10]
section
variable {ρ:Type}
def inT (regs:List (List ρ)->Nat->Str) (x:StF ρ) (d:Nat):Str:=
 momT d [101,110,116,114,121,32] x.enter++momT d [100,117,114,105,110,103,32] x.during++momT d [101,120,105,116,32] x.leave++restT d x.rests++x.ways.flatMap (fun y=>padT d++wayT y++[10])++regs x.regions d
def headT (x:StF ρ) (d:Nat):Str:=
 padT d++(if x.first then [105,110,105,116,105,97,108,32] else [])++(if x.last then [102,105,110,97,108,32] else [])++[115,116,97,116,101,32]++x.name
def stT (regs:List (List ρ)->Nat->Str) (x:StF ρ) (d:Nat):Str:=
 headT x d++(if inT regs x (d+1)=[] then [59,10] else [32,123,10]++inT regs x (d+1)++padT d++[125,10])
def oneRegT (st:ρ->Nat->Str) (d:Nat) (r:List ρ):Str:=padT d++[114,101,103,105,111,110,32,123,10]++r.flatMap (fun x=>st x (d+1))++padT d++[125,10]
def regT (st:ρ->Nat->Str) (l:List (List ρ)) (d:Nat):Str:=l.flatMap (oneRegT st d)
end
def stateT:(k:Nat)->St k->Nat->Str
 | 0=>fun _ _=>[]
 | k+1=>fun s d=>stT (regT (stateT k)) s d
def kindT (k:Nat):Str:=if k=1 then kInput else if k=2 then kOutput else if k=3 then kVar else []
def declT (v:Decl):Str:=[32,32]++kindT v.kind++[32]++v.name++(if v.first≠0 then [32,58,61,32]++itoa v.first else [])++[59,10]
def printT (c:Chart):Str:=[99,104,97,114,116,32]++c.name++[32,123,10]++c.vars.flatMap declT++regT (stateT 6) c.regions 1++[125,10]
def GoodE:E->Prop
 | .nil=>True
 | .node _ _ a l r=>1≤a.code/\a.code≤16/\(-9223372036854775808≤a.num/\a.num≤9223372036854775807)/\GoodE l/\GoodE r
def GoodSets (l:List Asg):Prop:=∀a∈l,GoodE a.e
def GoodWay (y:Wy):Prop:=y.kind≤2/\y.times≤1000/\GoodE y.cond/\GoodSets y.sets
def GoodDecl (v:Decl):Prop:=1≤v.kind/\v.kind≤3/\-9223372036854775808≤v.first/\v.first≤9223372036854775807
theorem exprT_zero (e:E):exprT e 1=exprT e 0:=by
 cases e with
 | nil=>rfl
 | node _ _ a l r=>
  have h:¬line a.code<1:=by unfold line;(repeat' split)<;>omega
  simp only[exprT,h,Nat.not_lt_zero,decide_false]
theorem inT_nil {ρ:Type}{st:ρ->Nat->Str}(x:StF ρ) (d:Nat):inT (regT st) x d=[]↔(x.enter=[]/\x.during=[]/\x.leave=[]/\x.rests=.nil/\x.ways=[]/\x.regions=[]):=by
 have hm:∀w l,momT d w l=[]↔l=[]:=fun w l=>by
  unfold momT;split
  ·rename_i h;simp[h]
  ·rename_i h;simp[h]
 have hr:restT d x.rests=[]↔x.rests=.nil:=by
  cases x.rests with
  | nil=>simp[restT]
  | node _ _ _ _ _=>simp[restT]
 have hw:(x.ways.flatMap (fun y=>padT d++wayT y++[10]))=[]↔x.ways=[]:=by
  cases x.ways with
  | nil=>simp
  | cons y r=>simp
 have hg:regT st x.regions d=[]↔x.regions=[]:=by
  cases x.regions with
  | nil=>simp[regT]
  | cons y r=>simp[regT,oneRegT]
 unfold inT
 simp only[List.append_eq_nil_iff,hm,hr,hw,hg,and_assoc]
end Px
end
section
namespace Lx
def Lexes:List (Nat×List UInt8)->List UInt8->Prop
 | [],u=>∀c∈u,blank c=true
 | (k,t)::r,u=>∃b v,u=b++(t++v)/\(∀c∈b,blank c=true)/\rd (t++v)=(k,t.length)/\t≠[]/\k≠0/\¬(k=2/\18<t.length)/\Lexes r v
theorem sk_blank:∀(b v:List UInt8),(∀c∈b,blank c=true)->sk false (b++v)=b.length+sk false v:=by
 intro b v
 induction b with
 | nil=>intro _;simp
 | cons c r ih=>
  intro h
  rw[List.cons_append,sk,if_pos (h c (by simp)),ih (fun d hd=>h d (by simp[hd])),List.length_cons];omega
theorem sk_tok {u:List UInt8}(h:(rd u).1≠0):sk false u=0:=by
 cases u with
 | nil=>rfl
 | cons c r=>
  have hb:blank c=false:=by
   cases hb:blank c with
   | false=>rfl
   | true=>
    exfalso
    apply h
    have hc:c=32\/c=9\/c=10:=by
     unfold blank at hb
     simp only[Bool.or_eq_true,beq_iff_eq] at hb
     rcases hb with (h|h)|h
     ·exact .inl h
     ·exact .inr (.inl h)
     ·exact .inr (.inr h)
    rcases hc with rfl|rfl|rfl<;>simp[rd,digit,word,alpha,mk,markIn,marks]
  have hs:(c==35)=false:=by
   cases hs:c==35 with
   | false=>rfl
   | true=>
    exfalso
    apply h
    have hc:c=35:=by simpa using hs
    subst hc
    simp[rd,digit,word,alpha,mk,markIn,marks]
  rw[sk,hb,hs];rfl
def placed:List (Nat×List UInt8)->List Tok->Prop
 | [],l=>l=[]
 | (k,t)::r,l=>∃p m,l=⟨k,t,p⟩::m/\placed r m
theorem lexes_reads:∀(ks:List (Nat×List UInt8)) (u:List UInt8) (p:Nat),Lexes ks u->∃l u' p',Reads u p l u' p'/\u'.drop (sk false u')=[]/\placed ks l:=by
 intro ks
 induction ks with
 | nil=>
  intro u p h
  refine ⟨[],u,p,Reads_nil _ _,?_,rfl⟩
  have:=sk_blank u [] h
  rw[List.append_nil] at this
  rw[this]
  simp[sk]
 | cons x r ih=>
  obtain ⟨k,t⟩:=x
  intro u p h
  obtain ⟨b,v,rfl,hb,hr,ht,hk,h2,hl⟩:=h
  obtain ⟨l,u',p',h1,h3,h4⟩:=ih v (p+b.length+t.length) hl
  have hs:sk false (b++(t++v))=b.length:=by rw[sk_blank b _ hb,sk_tok (by rw[hr];exact hk),Nat.add_zero]
  have hd:(b++(t++v)).drop (sk false (b++(t++v)))=t++v:=by rw[hs];simp
  refine ⟨⟨k,t,p+b.length⟩::l,u',p',?_,h3,⟨_,_,rfl,h4⟩⟩
  refine ⟨?_,?_,?_,?_,?_⟩
  ·rw[hd];cases t with
   | nil=>exact absurd rfl ht
   | cons c q=>simp
  ·rw[hd,hr,hs];simp
  ·rw[hd,hr];exact hk
  ·rw[hd,hr];exact h2
  ·rw[hd,hr,hs];simpa using h1
theorem placed_len:∀{ks:List (Nat×List UInt8)}{l:List Tok},placed ks l->l.length=ks.length:=by
 intro ks
 induction ks with
 | nil=>intro l h;rw[show l=[] from h];rfl
 | cons x r ih=>
  obtain ⟨k,t⟩:=x
  intro l ⟨p,m,e,h⟩
  rw[e,List.length_cons,List.length_cons,ih h]
theorem lexes_ok {ks:List (Nat×List UInt8)}{u:List UInt8}(h:Lexes ks u) (hn:ks.length≤600):∃l,Ok u l/\placed ks l:=by
 obtain ⟨l,u',p',h1,h2,h3⟩:=lexes_reads ks u 0 h
 exact ⟨l,⟨by rw[placed_len h3];exact hn,u',p',h1,h2⟩,h3⟩
theorem placed_at:∀{ks:List (Nat×List UInt8)}{l:List Tok},placed ks l->∀(i:Nat) (x:Nat×List UInt8),ks[i]?=some x->∃p,l[i]?=some ⟨x.1,x.2,p⟩:=by
 intro ks
 induction ks with
 | nil=>intro l _ i x hx;simp at hx
 | cons y r ih=>
  obtain ⟨k,t⟩:=y
  intro l ⟨p,m,e,h⟩ i x hx
  subst e
  cases i with
  | zero=>simp at hx;subst hx;exact ⟨p,by simp⟩
  | succ i=>
   obtain ⟨q,hq⟩:=ih h i x (by simpa using hx)
   exact ⟨q,by simpa using hq⟩
theorem rd_word {t v:List UInt8}{c:UInt8}{r:List UInt8}(e:t=c::r) (hc:alpha c=true) (ht:∀x∈t,word x=true) (hv:∀x y,v=x::y->word x=false):rd (t++v)=(1,t.length):=by
 have hd:digit c=false:=by
  unfold alpha at hc
  unfold digit
  simp only[Bool.or_eq_true,Bool.and_eq_true,decide_eq_true_eq,beq_iff_eq] at hc
  rcases hc with (h|h)|h
  ·simp;omega
  ·simp;omega
  ·subst h;rfl
 have hw:wh word (t++v)=t.length:=by
  clear e hc hd
  unfold wh
  induction t with
  | nil=>
   cases v with
   | nil=>rfl
   | cons x y=>simp[hv x y rfl]
  | cons x y ih=>
   rw[List.cons_append,List.takeWhile_cons,if_pos (ht x (by simp)),List.length_cons,ih (fun z hz=>ht z (by simp[hz])),List.length_cons]
 subst e
 rw[List.cons_append] at hw ⊢
 rw[rd,hd,if_neg (by simp),if_pos (ht c (by simp)),hw]
theorem rd_num {t v:List UInt8}(hne:t≠[]) (ht:∀x∈t,digit x=true) (hv:∀x y,v=x::y->digit x=false):rd (t++v)=(2,t.length):=by
 have hw:wh digit (t++v)=t.length:=by
  clear hne
  unfold wh
  induction t with
  | nil=>
   cases v with
   | nil=>rfl
   | cons x y=>simp[hv x y rfl]
  | cons x y ih=>
   rw[List.cons_append,List.takeWhile_cons,if_pos (ht x (by simp)),List.length_cons,ih (fun z hz=>ht z (by simp[hz])),List.length_cons]
 cases t with
 | nil=>exact absurd rfl hne
 | cons c r=>
  rw[List.cons_append] at hw ⊢
  rw[rd,if_pos (ht c (by simp)),hw]
end Lx
end
section
namespace Px
open Go.Lib Lx
def NameOk (s:Str):Prop:=(∃c r,s=c::r/\alpha c=true)/\(∀x∈s,word x=true)/\kw s=false/\s.length≤12
def SE:E->Prop
 | .nil=>False
 | .node b o a l r=>b=0/\o=0/\
  ((a.code=1/\0≤a.num/\a.num<1000000000000000000/\a.name=[]/\l=.nil/\r=.nil)\/((a.code=2\/a.code=3)/\a.num=0/\NameOk a.name/\l=.nil/\r=.nil) \/
   ((a.code=4\/a.code=5)/\a.num=0/\a.name=[]/\SE l/\r=.nil)\/(6≤a.code/\a.code≤16/\a.num=0/\a.name=[]/\SE l/\SE r))
abbrev Kt:=Nat×Str
def brackK (b:Bool) (s:List Kt):List Kt:=if b then (3,kPar)::(s++[(3,kRap)]) else s
def exprK:E->Nat->List Kt
 | .nil,_=>[]
 | .node _ _ a l r,least=>
  if a.code=1 then [(2,itoa a.num)]
  else if a.code=2 then [(1,a.name)]
  else if a.code=3 then [(1,kPre),(3,kPar),(1,a.name),(3,kRap)]
  else if a.code=4\/a.code=5 then (3,aheadT a.code)::exprK l 6
  else brackK (decide (line a.code<least)) (exprK l (line a.code)++((3,signT a.code)::exprK r (line a.code+1)))
def Sep (v:Str):Prop:=∀x y,v=x::y->word x=false
theorem Sep.digit {v:Str}(h:Sep v):∀x y,v=x::y->Lx.digit x=false:=fun x y e=>by
 have:=h x y e
 unfold word at this
 simp at this
 exact this.2
theorem sep_cons {c:UInt8}{v:Str}(h:word c=false):Sep (c::v):=fun x y e=>by injection e with e _;rw[<-e];exact h
theorem dec_digits:∀(n:Nat),∀c∈decDigits n,Lx.digit c=true:=by
 intro n
 induction n using Nat.strongRecOn with
 | _ n ih=>
  intro c hc
  rw[decDigits] at hc
  split at hc
  ·rename_i h
   rw[List.mem_singleton] at hc
   subst hc
   have:(UInt8.ofNat (48+n)).toNat=48+n:=by rw[UInt8.toNat_ofNat'];omega
   unfold Lx.digit
   rw[this];simp;omega
  ·rename_i h
   rcases List.mem_append.1 hc with hc|hc
   ·exact ih (n / 10) (by omega) c hc
   ·rw[List.mem_singleton] at hc
    subst hc
    have:(UInt8.ofNat (48+n % 10)).toNat=48+n % 10:=by rw[UInt8.toNat_ofNat'];omega
    unfold Lx.digit
    rw[this];simp;omega
theorem nDigits_le:∀(k u:Nat),u<10 ^ (k+1)->nDigits u≤k+1:=by
 intro k
 induction k with
 | zero=>intro u h;rw[nDigits_small (by omega)];omega
 | succ k ih=>
  intro u h
  by_cases hu:u<10
  ·rw[nDigits_small hu];omega
  ·rw[nDigits_big hu]
   have:=ih (u / 10) (by rw[Nat.pow_succ] at h;omega)
   omega
theorem itoa_digits {n:Int}(h0:0≤n) (h1:n<1000000000000000000):(itoa n≠[])/\(∀c∈itoa n,Lx.digit c=true)/\(itoa n).length≤18:=by
 unfold itoa
 rw[if_neg (by omega)]
 refine ⟨?_,dec_digits _,?_⟩
 ·intro h
  have:=congrArg List.length h
  rw[decDigits_length,List.length_nil] at this
  have:=nDigits_pos n.toNat
  omega
 ·rw[decDigits_length]
  have hp:(10:Nat) ^ (17+1)=1000000000000000000:=by decide
  have:=nDigits_le 17 n.toNat (by rw[hp];omega)
  omega
theorem rd_mark {t v:Str}(ht:t∈([[40],[41],[123],[125],[59],[44],[58,61],[45,45,62]]:List Str)):rd (t++v)=(3,t.length):=by
 simp only[List.mem_cons,List.not_mem_nil,or_false] at ht
 rcases ht with rfl|rfl|rfl|rfl|rfl|rfl|rfl|rfl<;>simp[rd,Lx.digit,word,alpha,mk,markIn,marks]
theorem rd_sign {c:Nat}(h1:6≤c) (h2:c≤16) (v:Str):rd (signT c++(32::v))=(3,(signT c).length):=by
 have hc:c=6\/c=7\/c=8\/c=9\/c=10\/c=11\/c=12\/c=13\/c=14\/c=15\/c=16:=by omega
 rcases hc with rfl|rfl|rfl|rfl|rfl|rfl|rfl|rfl|rfl|rfl|rfl<;>simp[signT,rd,Lx.digit,word,alpha,mk,markIn,marks]
def Fst (u:Str):Prop:=∃c r,u=c::r/\c≠61/\c≠62/\(c=45->∃d q,r=d::q/\d≠62)
theorem rd_minus {u:Str}(h:Fst u):rd ([45]++u)=(3,1):=by
 obtain ⟨c,r,rfl,h1,h2,h3⟩:=h
 by_cases hc:c=45
 ·obtain ⟨d,q,rfl,hd⟩:=h3 hc
  subst hc
  have:(62==d)=false:=by simpa using fun e=>hd e.symm
  simp[rd,Lx.digit,word,alpha,mk,markIn,marks,List.isPrefixOf,this]
 ·have:(45==c)=false:=by simpa using fun e=>hc e.symm
  simp[rd,Lx.digit,word,alpha,mk,markIn,marks,List.isPrefixOf,this]
theorem rd_not {u:Str}(h:Fst u):rd ([33]++u)=(3,1):=by
 obtain ⟨c,r,rfl,h1,h2,h3⟩:=h
 have:(61==c)=false:=by simpa using fun e=>h1 e.symm
 simp[rd,Lx.digit,word,alpha,mk,markIn,marks,List.isPrefixOf,this]
theorem lx_word {s v:Str}{ks:List Kt}(h1:∃c r,s=c::r/\alpha c=true) (h2:∀x∈s,word x=true) (hv:Sep v) (h:Lexes ks v):Lexes ((1,s)::ks) (s++v):=by
 obtain ⟨c,r,e,hc⟩:=h1
 refine ⟨[],v,rfl,fun c hc=>absurd hc (by simp),rd_word e hc h2 hv,by rw[e];simp,by simp,by simp,h⟩
theorem lx_mark {t v:Str}{ks:List Kt}(ht:t∈([[40],[41],[123],[125],[59],[44],[58,61],[45,45,62]]:List Str)) (h:Lexes ks v):Lexes ((3,t)::ks) (t++v):=by
 refine ⟨[],v,rfl,fun c hc=>absurd hc (by simp),rd_mark ht,?_,by simp,by simp,h⟩
 intro e
 rw[e] at ht
 simp at ht
theorem lx_num {n:Int}{v:Str}{ks:List Kt}(h0:0≤n) (h1:n<1000000000000000000) (hv:Sep v) (h:Lexes ks v):Lexes ((2,itoa n)::ks) (itoa n++v):=by
 obtain ⟨a,b,c⟩:=itoa_digits h0 h1
 exact ⟨[],v,rfl,fun c hc=>absurd hc (by simp),rd_num a b hv.digit,a,by simp,by simp;omega,h⟩
theorem lx_blank {c:UInt8}{v:Str}{ks:List Kt}(hc:Lx.blank c=true) (h:Lexes ks v):Lexes ks (c::v):=by
 cases ks with
 | nil=>intro x hx;rcases List.mem_cons.1 hx with rfl|hx;exact hc;exact h x hx
 | cons x r=>
  obtain ⟨k,t⟩:=x
  obtain ⟨b,u,e,hb,hr⟩:=h
  exact ⟨c::b,u,by rw[e];rfl,fun x hx=>by rcases List.mem_cons.1 hx with rfl|hx;exact hc;exact hb x hx,hr⟩
theorem fst_expr:∀{e:E},SE e->∀(least:Nat) (v:Str),Fst (exprT e least++v):=by
 intro e
 induction e with
 | nil=>intro h;exact absurd h (by simp[SE])
 | node b o a l r ihl ihr=>
  intro h least v
  obtain ⟨_,_,h|h|h|h⟩:=h
  ·obtain ⟨h1,h2,h3,_⟩:=h
   obtain ⟨n1,n2,_⟩:=itoa_digits h2 h3
   rw[exprT,if_pos h1]
   cases hi:itoa a.num with
   | nil=>exact absurd hi n1
   | cons c q=>
    have:=n2 c (by rw[hi];simp)
    unfold Lx.digit at this
    simp only[Bool.and_eq_true,decide_eq_true_eq] at this
    exact ⟨c,q++v,rfl,by rintro rfl;simp at this,by rintro rfl;simp at this,by rintro rfl;simp at this⟩
  ·obtain ⟨h1,_,⟨⟨c,q,e,hc⟩,_⟩,_⟩:=h
   rcases h1 with h1|h1
   ·rw[exprT,if_neg (by omega),if_pos h1,e]
    exact ⟨c,q++v,rfl,by rintro rfl;simp[alpha] at hc,by rintro rfl;simp[alpha] at hc,by rintro rfl;simp[alpha] at hc⟩
   ·rw[exprT,if_neg (by omega),if_neg (by omega),if_pos h1]
    exact ⟨112,_,rfl,by decide,by decide,fun h=>absurd h (by decide)⟩
  ·obtain ⟨h1,_,_,h2,_⟩:=h
   obtain ⟨c,q,e,n1,n2,n3⟩:=ihl h2 6 v
   rw[exprT,if_neg (by omega),if_neg (by omega),if_neg (by omega),if_pos h1,List.append_assoc,e]
   rcases h1 with h1|h1
   ·rw[h1];exact ⟨45,c::q,rfl,by decide,by decide,fun _=>⟨c,q,rfl,n2⟩⟩
   ·rw[h1];exact ⟨33,c::q,rfl,by decide,by decide,fun h=>absurd h (by decide)⟩
  ·obtain ⟨h1,h2,_,_,h3,h4⟩:=h
   rw[exprT,if_neg (by omega),if_neg (by omega),if_neg (by omega),if_neg (by omega),brack]
   split
   ·exact ⟨40,_,rfl,by decide,by decide,fun h=>absurd h (by decide)⟩
   ·simp only[List.append_assoc]
    exact ihl h3 _ _
theorem exprK_lex:∀{e:E},SE e->∀(least:Nat) (v:Str) (ks:List Kt),Sep v->Lexes ks v->Lexes (exprK e least++ks) (exprT e least++v):=by
 intro e
 induction e with
 | nil=>intro h;exact absurd h (by simp[SE])
 | node b o a l r ihl ihr=>
  intro h least v ks hv hl
  obtain ⟨_,_,h|h|h|h⟩:=h
  ·obtain ⟨h1,h2,h3,_⟩:=h
   rw[exprT,exprK,if_pos h1,if_pos h1]
   exact lx_num h2 h3 hv hl
  ·obtain ⟨h1,_,⟨n1,n2,_⟩,_⟩:=h
   rcases h1 with h1|h1
   ·rw[exprT,exprK,if_neg (by omega),if_pos h1,if_neg (by omega),if_pos h1]
    exact lx_word n1 n2 hv hl
   ·rw[exprT,exprK,if_neg (by omega),if_neg (by omega),if_pos h1,if_neg (by omega),if_neg (by omega),if_pos h1]
    have e1:[112,114,101,40]++a.name++[41]++v=kPre++(kPar++(a.name++(kRap++v))):=by simp[kPre,kPar,kRap]
    rw[e1]
    refine lx_word ⟨112,[114,101],rfl,rfl⟩ (by decide) (sep_cons (by decide)) (lx_mark (by decide) (lx_word n1 n2 (sep_cons (by decide)) (lx_mark (by decide) hl)))
  ·obtain ⟨h1,_,_,h2,_⟩:=h
   have hf:=fst_expr h2 6 v
   rw[exprT,exprK,if_neg (by omega),if_neg (by omega),if_neg (by omega),if_pos h1,if_neg (by omega),if_neg (by omega),if_neg (by omega),if_pos h1,List.append_assoc]
   rcases h1 with h1|h1
   ·rw[h1]
    exact ⟨[],_,rfl,fun c hc=>absurd hc (by simp),rd_minus hf,by decide,by decide,by decide,ihl h2 6 v ks hv hl⟩
   ·rw[h1]
    exact ⟨[],_,rfl,fun c hc=>absurd hc (by simp),rd_not hf,by decide,by decide,by decide,ihl h2 6 v ks hv hl⟩
  ·obtain ⟨h1,h2,_,_,h3,h4⟩:=h
   have two:∀(v:Str) (ks:List Kt),Sep v->Lexes ks v->Lexes (exprK l (line a.code)++((3,signT a.code)::exprK r (line a.code+1))++ks) (exprT l (line a.code)++[32]++signT a.code++[32]++exprT r (line a.code+1)++v):=by
    intro v ks hv hl
    have q:=ihr h4 (line a.code+1) v ks hv hl
    simp only[List.append_assoc,List.cons_append,List.nil_append]
    refine ihl h3 (line a.code) _ _ (sep_cons (by decide)) (lx_blank (by decide) ?_)
    refine ⟨[],_,rfl,fun c hc=>absurd hc (by simp),rd_sign h1 h2 _,?_,by simp,by simp,lx_blank (by decide) q⟩
    intro e
    have:∀c,6≤c->c≤16->signT c≠[]:=fun c q1 q2=>by unfold signT;(repeat' split)<;>simp
    exact this _ h1 h2 e
   rw[exprT,exprK,if_neg (by omega),if_neg (by omega),if_neg (by omega),if_neg (by omega),if_neg (by omega),if_neg (by omega),if_neg (by omega),if_neg (by omega)]
   unfold brack brackK
   split
   ·have q:=two (kRap++v) ((3,kRap)::ks) (sep_cons (by decide)) (lx_mark (by decide) hl)
    have q2:=lx_mark (t:=kPar) (by decide) q
    simpa [kPar,kRap,List.append_assoc] using q2
   ·exact two v ks hv hl
end Px
end
end Go.Proofs.YtpogmfliojcnjaaGreatDoor
