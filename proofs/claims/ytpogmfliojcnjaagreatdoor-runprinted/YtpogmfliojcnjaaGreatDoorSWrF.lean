import Derived.Test.YtpogmfliojcnjaaGreatDoorSWrC
import Derived.Laws.IdiomStrings
import Derived.Laws.BytesArg
namespace Go.Proofs.YtpogmfliojcnjaaGreatDoor
section
open Go.RowKit Go.Lib Go.Sort Px
set_option maxRecDepth 100000 in
set_option maxHeartbeats 2000000 in
theorem regs1_nil {wb ab sb cap d:Nat}{w:World}{v:Value}{t:Str}{ao:Option Addr}(hW:WAt wb w v t d) (hs:w.heap[sb]?=some (.cells #[.slice ao 0 cap] 64 (0,0))) :
    Calls Tryz.prog 106 #[.pointer (some ⟨sb,0,none⟩),.pointer (some ⟨ab,0,none⟩)] w fun e w'=>e=.returned (.tuple #[])/\Wrote wb w v t d w':=by
 obtain ⟨s0,-⟩:=cel hs 0 _ rfl
 go_enter Tryz.func106,Tryz.ntmps106
 go_wp2_with fail
 refine wp_loop_rounds 1 ?_
 rw[rounds_succ]
 go_wp2_with fail
 go_end0
 exact ⟨rfl,Wrote.refl hW⟩
set_option maxRecDepth 100000 in
set_option maxHeartbeats 4000000 in
theorem regs1_some {k wb ab sb g N cap d:Nat}{w:World}{v:Value}{t:Str}(hS:StateW k) (r:List (StF (St k))) (hG:∀x∈r,OkStF (OkSt k) x) (hd:d+1+2*k≤800) (hW:WAt wb w v t d) (hE:WEnv wb w) (ha:w.heap[ab]?=some (.cells #[.pointer (some ⟨wb,0,none⟩)] 181 (0,0))) (hab:ab≠wb) (hva:v.ownBlock≠some ab)
    (hs:w.heap[sb]?=some (.cells #[.slice (some ⟨g,0,none⟩) N cap] 64 (0,0))) (hN:Hid (N=r.length)) (hm:N≤maxLen) (hgw:g<wb)
    (R:Hid (∀(i:Nat) (a:StF (St k)),r[i]?=some a->∃c,StC (· < wb) w (IsStates (· < wb) w k) a c/\∀(j:Nat) (u:Value),c[j]?=some u->w.cell? ⟨g,i*9+j,none⟩=some u)) (hlim:t.length+(r.flatMap (fun x=>stT (regT (stateT k)) x d)).length≤140737488355328) :
    Calls Tryz.prog 106 #[.pointer (some ⟨sb,0,none⟩),.pointer (some ⟨ab,0,none⟩)] w fun e w'=>e=.returned (.tuple #[])/\Wrote wb w v (t++r.flatMap (fun x=>stT (regT (stateT k)) x d)) d w':=by
 have hN6:(N:Int)≤9223372036854775807:=by unfold maxLen at hm;omega
 have HL:Hid _:=hlim
 have HG:Hid _:=hG
 have HS:Hid (StateW k):=hS
 have S0:=WSt.start hW
 have lx:=S0.wlt
 have hal:=lt_of_block ha
 obtain ⟨ST,hST⟩:∃ST:StF (St k)->Str,Hid (ST=fun x=>stT (regT (stateT k)) x d):=⟨fun x=>stT (regT (stateT k)) x d,rfl⟩
 replace HL:Hid (t.length+(r.flatMap ST).length≤140737488355328):=by rw[hST.out];exact HL
 rw[<-hST.out]
 clear hlim hm hG hS
 obtain ⟨s0,-⟩:=cel hs 0 _ rfl
 go_enter Tryz.func106,Tryz.ntmps106
 go_wp2_with fail
 go_loopg [6] N (fun f i wr=>∃j:Nat,f=N-j/\j≤N/\i=.int .i64 j/\Hid (∃vx,WSt wb w v wr vx (t++(r.take j).flatMap ST) d))
 case atStart=>exact ⟨0,by omega,by omega,rfl,⟨v,by simpa using S0⟩⟩
 case round=>
  obtain ⟨j,rfl,hj,rfl,hr⟩:=hrel
  obtain ⟨v5,S5⟩:=hr.out
  by_cases hlt:j<N
  ·obtain ⟨a,hja⟩:∃a,Hid (r[j]?=some a):=⟨r[j]'(by rw[<-hN.out];exact hlt),by rw[Hid,List.getElem?_eq_getElem]⟩
   obtain ⟨T,hT⟩:∃T:Str,Hid (T=t++(r.take j).flatMap ST):=⟨_,rfl⟩
   rw[<-hT.out] at S5
   obtain ⟨c,hc,hx⟩:=R.out j a hja.out
   have hgk:wr.heap[g]?=w.heap[g]?:=(S5.keep g hgw (by omega)).2
   have hc5:=StC.carry S5.keep (IsStates.carry S5.keep k) _ _ hc
   obtain ⟨e3,e4,e5,p,y,e8,rfl,h3,h4,h5,h6,h7,h8⟩:=hc
   obtain ⟨u,rfl⟩:=h6.pt
   obtain ⟨b3,n3,m3,rfl⟩:=h3.sl
   obtain ⟨b4,n4,m4,rfl⟩:=h4.sl
   obtain ⟨b5,n5,m5,rfl⟩:=h5.sl
   obtain ⟨b7,m7,g7,rfl,-,-⟩:=h7.read
   obtain ⟨b8,m8,rfl⟩:=h8.sl
   have x0:=hx 0 _ rfl
   have x1:=hx 1 _ rfl
   have x2:=hx 2 _ rfl
   have x3:=hx 3 _ rfl
   have x4:=hx 4 _ rfl
   have x5:=hx 5 _ rfl
   have x6:=hx 6 _ rfl
   have x7:=hx 7 _ rfl
   have x8:=hx 8 _ rfl
   rw[Nat.add_zero] at x0
   rw[<-World.cell?_of_block (w:=w) (a:=⟨g,j*9,none⟩) hgk] at x0
   rw[<-World.cell?_of_block (w:=w) (a:=⟨g,j*9+1,none⟩) hgk] at x1
   rw[<-World.cell?_of_block (w:=w) (a:=⟨g,j*9+2,none⟩) hgk] at x2
   rw[<-World.cell?_of_block (w:=w) (a:=⟨g,j*9+3,none⟩) hgk] at x3
   rw[<-World.cell?_of_block (w:=w) (a:=⟨g,j*9+4,none⟩) hgk] at x4
   rw[<-World.cell?_of_block (w:=w) (a:=⟨g,j*9+5,none⟩) hgk] at x5
   rw[<-World.cell?_of_block (w:=w) (a:=⟨g,j*9+6,none⟩) hgk] at x6
   rw[<-World.cell?_of_block (w:=w) (a:=⟨g,j*9+7,none⟩) hgk] at x7
   rw[<-World.cell?_of_block (w:=w) (a:=⟨g,j*9+8,none⟩) hgk] at x8
   simp only[sv] at x0 hc5
   obtain ⟨n7,hn7⟩:∃n,Hid (n=a.ways.length):=⟨_,rfl⟩
   obtain ⟨n8,hn8⟩:∃n,Hid (n=a.regions.length):=⟨_,rfl⟩
   rw[<-hn7.out,<-hn8.out] at hc5
   rw[<-hn7.out] at x7
   rw[<-hn8.out] at x8
   obtain ⟨S6,hb6,nb6,nv6⟩:=S5.at_.local #[.string ⟨a.name.toArray⟩,.bool a.first,.bool a.last,.slice b3 n3 m3,.slice b4 n4 m4,.slice b5 n5 m5,.pointer u,.slice b7 n7 m7,.slice b8 n8 m8] 69
   have kq:Keep (· < wb) (· < wb) wr (wr.alloc (.cells #[.string ⟨a.name.toArray⟩,.bool a.first,.bool a.last,.slice b3 n3 m3,.slice b4 n4 m4,.slice b5 n5 m5,.pointer u,.slice b7 n7 m7,.slice b8 n8 m8] 69)):=fun b hb' hl=>⟨hb',heap_alloc_old _ _ hl⟩
   have hc6:Hid (StC (· < wb) (wr.alloc (.cells #[.string ⟨a.name.toArray⟩,.bool a.first,.bool a.last,.slice b3 n3 m3,.slice b4 n4 m4,.slice b5 n5 m5,.pointer u,.slice b7 n7 m7,.slice b8 n8 m8] 69)) (IsStates (· < wb) (wr.alloc (.cells #[.string ⟨a.name.toArray⟩,.bool a.first,.bool a.last,.slice b3 n3 m3,.slice b4 n4 m4,.slice b5 n5 m5,.pointer u,.slice b7 n7 m7,.slice b8 n8 m8] 69)) k) a (#[.string ⟨a.name.toArray⟩,.bool a.first,.bool a.last,.slice b3 n3 m3,.slice b4 n4 m4,.slice b5 n5 m5,.pointer u,.slice b7 n7 m7,.slice b8 n8 m8]).toList):=StC.carry kq (IsStates.carry kq k) _ _ hc5
   have hE6:=(S5.alloc (.cells #[.string ⟨a.name.toArray⟩,.bool a.first,.bool a.last,.slice b3 n3 m3,.slice b4 n4 m4,.slice b5 n5 m5,.pointer u,.slice b7 n7 m7,.slice b8 n8 m8] 69)).env hE
   have ha6:=(S5.alloc (.cells #[.string ⟨a.name.toArray⟩,.bool a.first,.bool a.last,.slice b3 n3 m3,.slice b4 n4 m4,.slice b5 n5 m5,.pointer u,.slice b7 n7 m7,.slice b8 n8 m8] 69)).blk ha hab hva
   have hout:∀wk t',Wrote wb (wr.alloc (.cells #[.string ⟨a.name.toArray⟩,.bool a.first,.bool a.last,.slice b3 n3 m3,.slice b4 n4 m4,.slice b5 n5 m5,.pointer u,.slice b7 n7 m7,.slice b8 n8 m8] 69)) v5 t' d wk->∃vx,WSt wb w v wk vx t' d:=fun wk t' h=>(S5.alloc _).step h
   have HB:Hid (T.length+(stT (regT (stateT k)) a d).length≤140737488355328/\t++(r.take (j+1)).flatMap ST=T++stT (regT (stateT k)) a d):=by
    have e1:t++(r.take (j+1)).flatMap ST=T++stT (regT (stateT k)) a d:=by
     rw[take_snoc hja.out,List.flatMap_append,hT.out,hST.out];simp[List.append_assoc]
    refine ⟨?_,e1⟩
    have h1:=congrArg List.length e1
    have h2:=flatMap_take_le ST r (j+1)
    have h3:=HL.out
    simp only[List.length_append] at h1
    omega
   have HGa:Hid _:=HG.out a (List.mem_of_getElem? hja.out)
   have hi0:(0:Int)≤(j:Int):=Int.natCast_nonneg _
   have hi1:(j:Int)<(N:Int):=by omega
   clear hx h3 h4 h5 h6 h7 h8 kq hc5
   go_upto_region 3 with fail
   generalize wr.alloc (.cells #[.string ⟨a.name.toArray⟩,.bool a.first,.bool a.last,.slice b3 n3 m3,.slice b4 n4 m4,.slice b5 n5 m5,.pointer u,.slice b7 n7 m7,.slice b8 n8 m8] 69)=W6 at S6 hb6 hc6 hE6 ha6 hout ⊢
   obtain ⟨z0,-⟩:=cel ha6 0 _ rfl
   obtain ⟨r0,-⟩:=cel hb6 0 _ rfl
   obtain ⟨r1,-⟩:=cel hb6 1 _ rfl
   obtain ⟨r2,-⟩:=cel hb6 2 _ rfl
   obtain ⟨r3,-⟩:=cel hb6 3 _ rfl
   obtain ⟨r4,-⟩:=cel hb6 4 _ rfl
   obtain ⟨r5,-⟩:=cel hb6 5 _ rfl
   obtain ⟨r6,-⟩:=cel hb6 6 _ rfl
   obtain ⟨r7,-⟩:=cel hb6 7 _ rfl
   obtain ⟨r8,-⟩:=cel hb6 8 _ rfl
   go_wp2_with (go_at_call 107;refine (HS.out wb _ _ _ d a _ hd S6.at_ hE6 HGa.out hc6.out HB.out.1).mono ?_;rintro _ w7 ⟨rfl,hw7⟩;obtain ⟨v7,S7⟩:=hout _ _ hw7)
   go_roundg (N-(j+1))
   case measure=>omega
   case rel=>exact ⟨j+1,rfl,by omega,by go_num,v7,by rw[HB.out.2];exact S7⟩
  ·have hjN:r.take j=r:=List.take_of_length_le (by rw[<-hN.out];omega)
   rw[hjN] at S5
   go_wp2_with fail
   go_end0
   exact ⟨rfl,S5.out⟩
end
section
open Go.RowKit Go.Lib Go.Sort Px
def InW (k:Nat):Prop:=∀(wb ab sb:Nat) (w:World) (v u:Value) (t:Str) (d:Nat) (r:List (St k)),d+2*k≤801->WAt wb w v t d->WEnv wb w->(∀x∈r,OkSt k x)->IsStates (· < wb) w k r u->w.heap[ab]?=some (.cells #[.pointer (some ⟨wb,0,none⟩)] 181 (0,0))->ab≠wb->v.ownBlock≠some ab->w.heap[sb]?=some (.cells #[u] 64 (0,0))->t.length+(r.flatMap (fun x=>stateT k x d)).length≤140737488355328->
 Calls Tryz.prog 106 #[.pointer (some ⟨sb,0,none⟩),.pointer (some ⟨ab,0,none⟩)] w fun e w'=>e=.returned (.tuple #[])/\Wrote wb w v (t++r.flatMap (fun x=>stateT k x d)) d w'
theorem in_zero:InW 0:=by
 intro wb ab sb w v u t d r _ hW _ _ hu _ _ _ hs _
 obtain ⟨rfl,rfl⟩:=hu
 have:=regs1_nil (ab:=ab) hW hs
 simpa using this
theorem in_succ {k:Nat}(hS:StateW k):InW (k+1):=by
 intro wb ab sb w v u t d r hd hW hE hG hu ha hab hva hs hlim
 obtain ⟨xs,hr,hrs⟩:=hu
 have hk9:∀(a:StF (St k)) (c:List Value),StC (· < wb) w (IsStates (· < wb) w k) a c->c.length=9:=fun a c ⟨_,_,_,_,_,_,hc,_⟩=>by rw[hc];rfl
 rcases Row.recs hk9 hr hrs with ⟨h,ao,cap,rfl⟩|⟨g,cap,rfl,h2,h3,h4,h5,h6⟩
 ·have e:r=[]:=h
  subst e
  have:=regs1_nil (ab:=ab) hW hs
  simpa using this
 ·exact regs1_some hS r hG (by omega) hW hE ha hab hva hs rfl h3 h5 h6 hlim
theorem IsStates.slE {A:Nat->Prop}{w:World}{k:Nat}{l:List (St k)}{v:Value}(h:IsStates A w k l v):∃a n c,v=.slice a n c:=by
 cases k with
 | zero=>obtain ⟨_,rfl⟩:=h;exact ⟨_,_,_,rfl⟩
 | succ k=>
  obtain ⟨xs,hr,_⟩:=h
  obtain ⟨ao,cap,rfl,_⟩:=hr.read
  exact ⟨_,_,_,rfl⟩
set_option maxRecDepth 100000 in
set_option maxHeartbeats 2000000 in
theorem regions_nil {wb cap d:Nat}{w:World}{v:Value}{t:Str}{ao:Option Addr}(hW:WAt wb w v t d) :
    Calls Tryz.prog 60 #[.pointer (some ⟨wb,0,none⟩),.slice ao 0 cap] w fun e w'=>e=.returned (.tuple #[])/\Wrote wb w v t d w':=by
 have S:=(WSt.start hW).alloc (.cells #[.pointer (some ⟨wb,0,none⟩)] 181)
 go_enter Tryz.func60,Tryz.ntmps60
 go_wp2_with fail
 refine wp_loop_rounds 1 ?_
 rw[rounds_succ]
 go_wp2_with fail
 go_end0
 exact ⟨rfl,S.out⟩
set_option maxRecDepth 100000 in
set_option maxHeartbeats 4000000 in
theorem regions_some {k wb g N cap d:Nat}{w:World}{v:Value}{t:Str}(hI:InW k) (l:List (List (St k))) (hG:∀r∈l,∀x∈r,OkSt k x) (hd:d+2*k≤800) (hW:WAt wb w v t d) (hE:WEnv wb w) (hN:Hid (N=l.length)) (hm:N≤maxLen) (hgw:g<wb)
    (R:Hid (∀(i:Nat) (r:List (St k)),l[i]?=some r->∃c,RegC (IsStates (· < wb) w k) r c/\∀(j:Nat) (u:Value),c[j]?=some u->w.cell? ⟨g,i*1+j,none⟩=some u)) (hlim:t.length+(regT (stateT k) l d).length≤140737488355328) :
    Calls Tryz.prog 60 #[.pointer (some ⟨wb,0,none⟩),.slice (some ⟨g,0,none⟩) N cap] w fun e w'=>e=.returned (.tuple #[])/\Wrote wb w v (t++regT (stateT k) l d) d w':=by
 have hN6:(N:Int)≤9223372036854775807:=by unfold maxLen at hm;omega
 obtain ⟨OT,hOT⟩:∃OT:List (St k)->Str,Hid (OT=oneRegT (stateT k) d):=⟨oneRegT (stateT k) d,rfl⟩
 have HT:Hid (regT (stateT k) l d=l.flatMap OT):=by rw[Hid,hOT.out];rfl
 rw[HT.out] at hlim ⊢
 have HL:Hid _:=hlim
 have HG:Hid _:=hG
 have HI:Hid (InW k):=hI
 have hd1:d≤1000:=by omega
 obtain ⟨S0,ha,nb,nv⟩:=hW.local #[.pointer (some ⟨wb,0,none⟩)] 181
 have hleave:∀wk vk t',WSt wb (w.alloc (.cells #[.pointer (some ⟨wb,0,none⟩)] 181)) v wk vk t' d->Wrote wb w v t' d wk:=fun wk vk t' h=>h.leave hW
 have hE0:=((WSt.start hW).alloc (.cells #[.pointer (some ⟨wb,0,none⟩)] 181)).env hE
 have kp:Keep (· < wb) (· < wb) w (w.alloc (.cells #[.pointer (some ⟨wb,0,none⟩)] 181)):=fun b hb' hl=>⟨hb',heap_alloc_old _ _ hl⟩
 have lx:=(WSt.start hW).wlt
 have R0:Hid (∀(i:Nat) (r:List (St k)),l[i]?=some r->∃u,(w.alloc (.cells #[.pointer (some ⟨wb,0,none⟩)] 181)).cell? ⟨g,i,none⟩=some u/\IsStates (· < wb) (w.alloc (.cells #[.pointer (some ⟨wb,0,none⟩)] 181)) k r u):=fun i r hi=>by
  obtain ⟨c,⟨u,rfl,hu⟩,hx⟩:=R.out i r hi
  have x0:=hx 0 _ rfl
  rw[Nat.mul_one,Nat.add_zero] at x0
  exact ⟨u,by rw[World.cell?_of_block (w:=w) (kp g hgw (by omega)).2];exact x0,IsStates.carry kp k _ _ hu⟩
 have hal:w.heap.size<(w.alloc (.cells #[.pointer (some ⟨wb,0,none⟩)] 181)).heap.size:=by simp
 clear hlim hm hG hI kp R
 go_enter Tryz.func60,Tryz.ntmps60
 go_upto_region 1 with fail
 have lW:wb<(w.alloc (.cells #[.pointer (some ⟨wb,0,none⟩)] 181)).heap.size:=S0.wlt
 generalize w.alloc (.cells #[.pointer (some ⟨wb,0,none⟩)] 181)=W at S0 ha hleave hE0 R0 hal lW ⊢
 go_wp2_with fail
 go_loopg [8] N (fun f i wr=>∃j:Nat,f=N-j/\j≤N/\i=.int .i64 j/\Hid (∃vx,WSt wb W v wr vx (t++(l.take j).flatMap OT) d))
 case atStart=>exact ⟨0,by omega,by omega,rfl,⟨v,by simpa using S0⟩⟩
 case round=>
  obtain ⟨j,rfl,hj,rfl,hr⟩:=hrel
  obtain ⟨v5,S5⟩:=hr.out
  by_cases hlt:j<N
  ·obtain ⟨r,hjr⟩:∃r,Hid (l[j]?=some r):=⟨l[j]'(by rw[<-hN.out];exact hlt),by rw[Hid,List.getElem?_eq_getElem]⟩
   obtain ⟨T,hT⟩:∃T:Str,Hid (T=t++(l.take j).flatMap OT):=⟨_,rfl⟩
   rw[<-hT.out] at S5
   obtain ⟨u,x0,hu⟩:=R0.out j r hjr.out
   have hgk:wr.heap[g]?=W.heap[g]?:=(S5.keep g hgw (by omega)).2
   rw[<-World.cell?_of_block (w:=W) (a:=⟨g,j,none⟩) hgk] at x0
   obtain ⟨ua,un,uc,rfl⟩:=hu.slE
   have hu5:=IsStates.carry S5.keep k _ _ hu
   obtain ⟨S6,hb6,nb6,nv6⟩:=S5.at_.local #[.slice ua un uc] 64
   have kq:Keep (· < wb) (· < wb) wr (wr.alloc (.cells #[.slice ua un uc] 64)):=fun b hb' hl=>⟨hb',heap_alloc_old _ _ hl⟩
   have hu6:=IsStates.carry kq k _ _ hu5
   have hE6:=(S5.alloc (.cells #[.slice ua un uc] 64)).env hE0
   have ha6:=(S5.alloc (.cells #[.slice ua un uc] 64)).blk ha nb nv
   have nv5:v5.ownBlock≠some w.heap.size:=S5.ne hal nv
   have hl6:wr.heap.size<(wr.alloc (.cells #[.slice ua un uc] 64)).heap.size:=by simp
   have hl7:w.heap.size<(wr.alloc (.cells #[.slice ua un uc] 64)).heap.size:=by have:=S5.oth.size;simp;omega
   have hout:∀wk vk t',WSt wb (wr.alloc (.cells #[.slice ua un uc] 64)) v5 wk vk t' d->∃vx,WSt wb W v wk vx t' d:=fun wk vk t' h=>(S5.alloc _).step h.out
   obtain ⟨X,hX⟩:∃X:Str,Hid (X=r.flatMap (fun x=>stateT k x (d+1))):=⟨r.flatMap (fun x=>stateT k x (d+1)),rfl⟩
   obtain ⟨P,hP⟩:∃P:Str,Hid (P=padT d):=⟨_,rfl⟩
   have HB:Hid (T.length+(P.length+6+(3+X.length+P.length+2))≤140737488355328/\t++(l.take (j+1)).flatMap OT=T++P++[114,101,103,105,111,110]++([32,123,10]++X++padT d++[125,10])):=by
    have e1:t++(l.take (j+1)).flatMap OT=T++P++[114,101,103,105,111,110]++([32,123,10]++X++padT d++[125,10]):=by
     rw[take_snoc hjr.out,List.flatMap_append,hT.out,hOT.out,hX.out,hP.out];simp[List.append_assoc,oneRegT]
    refine ⟨?_,e1⟩
    have h1:=congrArg List.length e1
    have h2:=flatMap_take_le OT l (j+1)
    have h3:=HL.out
    rw[<-hP.out] at h1
    simp only[List.length_append,List.length_cons,List.length_nil] at h1
    omega
   have HGa:Hid _:=HG.out r (List.mem_of_getElem? hjr.out)
   have hi0:(0:Int)≤(j:Int):=Int.natCast_nonneg _
   have hi1:(j:Int)<(N:Int):=by omega
   clear hu hu5 kq
   go_upto_region 4 with fail
   generalize wr.alloc (.cells #[.slice ua un uc] 64)=W6 at S6 hb6 hu6 hE6 ha6 hout hl6 hl7 ⊢
   obtain ⟨z0,-⟩:=cel ha6 0 _ rfl
   go_wp2_with (first
    | (go_at_call 103;refine (begin_any S6.at_ hd1 (by rw[<-hP.out];have:=HB.out.1;omega)).mono ?_;rintro _ w7 ⟨rfl,hw7⟩;rw[<-hP.out] at hw7;obtain ⟨v7,S7⟩:=S6.step hw7;obtain ⟨z1,-⟩:=cel (S7.blk ha6 nb nv5) 0 _ rfl)
    | (go_at_call 56;refine (say1 S7.at_ [114,101,103,105,111,110] (by have:=HB.out.1;simp;omega)).mono ?_;rintro _ w8 ⟨rfl,hw8⟩;obtain ⟨v8,S8⟩:=S7.step hw8;have ha8:=S8.blk ha6 nb nv5;have hb8:=S8.blk hb6 nb6 nv6;obtain ⟨z2,-⟩:=cel ha8 0 _ rfl;have n8:=S8.ne hl7 nv5;have m8:=S8.ne hl6 nv6)
    | (go_at_call 57;refine (braced_regions (X:=X) (by omega) S8.at_ (by have:=HB.out.1;rw[<-hP.out];simp;omega) (fun w9 v9 S9=>by rw[hX.out];exact HI.out wb w.heap.size _ w9 v9 _ _ (d+1) r (by omega) S9.at_ (S9.env (S8.env hE6)) HGa.out (IsStates.carry S9.keep k _ _ (IsStates.carry S8.keep k _ _ hu6)) (S9.blk ha8 nb n8) nb (S9.ne (lt_of_block ha8) n8) (S9.blk hb8 nb6 m8) (by rw[<-hX.out];have:=HB.out.1;simp;omega))).mono ?_;rintro _ w9 ⟨rfl,hw9⟩;obtain ⟨v9,S9⟩:=S8.step hw9;obtain ⟨vx,Sx⟩:=hout _ _ _ S9))
   go_roundg (N-(j+1))
   case measure=>omega
   case rel=>exact ⟨j+1,rfl,by omega,by go_num,vx,by rw[HB.out.2];exact Sx⟩
  ·have hjN:l.take j=l:=List.take_of_length_le (by rw[<-hN.out];omega)
   rw[hjN] at S5
   go_wp2_with fail
   go_end0
   exact ⟨rfl,hleave _ _ _ S5⟩
theorem regs_of {k:Nat}(hI:InW k):RegsW k:=by
 intro wb w v p t d l hd hW hE hG hp hlim
 obtain ⟨xs,hr,hs⟩:=hp
 rcases Row.recs (k:=1) (fun a c ⟨u,hc,_⟩=>by rw[hc];rfl) hr hs with ⟨rfl,ao,cap,rfl⟩|⟨g,cap,rfl,h2,h3,h4,h5,h6⟩
 ·have:=regions_nil (ao:=ao) (cap:=cap) hW
  simpa [regT] using this
 ·exact regions_some hI l hG hd hW hE rfl h3 h5 h6 hlim
theorem regs_w:∀k,RegsW k:=by
 intro k
 induction k with
 | zero=>exact regs_of in_zero
 | succ k ih=>exact regs_of (in_succ (state_w ih))
end
section
open Go.RowKit Go.Lib Go.Sort Px
theorem conv_text {wb d:Nat}{w:World}{v:Value}{t:Str}(h:WAt wb w v t d):(convert 115 9 v).run Tryz.prog w=.ok (.string ⟨t.toArray⟩) w:=by
 have hc:=fun g hg=>World.ownsRow.cells h.2 (g:=g) hg
 rcases h.2.2 with ⟨rfl,h0⟩|⟨g,cap,cur,rfl,_⟩
 ·have e:t=[]:=List.eq_nil_of_length_eq_zero h0
  subst e
  exact run_convert_bytes_nil w _ _ Tryz.underlying115 Tryz.underlying5 _ _ _ Tryz.underlying9
 ·refine run_convert_bytes_back w _ _ _ ⟨g,0,none⟩ cap t Tryz.underlying115 Tryz.underlying5 Tryz.underlying9 (fun j hj=>?_)
  refine hc g rfl j _ ?_
  rw[List.getElem?_map,List.getElem?_eq_getElem hj];rfl
theorem IsVars.look {A:Nat->Prop}{w:World}{l:List Decl}{v:Value}(h:IsVars A w l v) :
    (l=[]/\∃ao cap,v=.slice ao 0 cap)\/∃g cap,v=.slice (some ⟨g,0,none⟩) l.length cap/\l.length≤maxLen/\g<w.heap.size/\A g/\∀(i:Nat) (a:Decl),l[i]?=some a->w.cell? ⟨g,i*3,none⟩=some (.int .i64 a.kind)/\w.cell? ⟨g,i*3+1,none⟩=some (sv a.name)/\w.cell? ⟨g,i*3+2,none⟩=some (.int .i64 a.first):=by
 obtain ⟨xs,hr,hs⟩:=h
 rcases Row.recs (k:=3) (fun a c (hc:c=_)=>by rw[hc];rfl) hr hs with h|⟨g,cap,h1,h2,h3,h4,h5,h6⟩
 ·exact .inl h
 ·refine .inr ⟨g,cap,h1,h3,h4,h5,fun i a hi=>?_⟩
  obtain ⟨c,hc,hx⟩:=h6 i a hi
  replace hc:c=[.int .i64 a.kind,sv a.name,.int .i64 a.first]:=hc
  subst hc
  exact ⟨hx 0 _ rfl,hx 1 _ rfl,hx 2 _ rfl⟩
set_option maxRecDepth 100000 in
set_option maxHeartbeats 2000000 in
theorem print1_nil {wb cb cap m n:Nat}{w:World}{v c0:Value}{t:Str}{ao b:Option Addr}(rs:List (List (St 6))) (hG:∀r∈rs,∀x∈r,OkSt 6 x) (hW:WAt wb w v t 1) (hE:WEnv wb w) (hcb:w.heap[cb]?=some (.cells #[c0,.slice ao 0 cap,.slice b n m] 28 (0,0)))
    (hr:IsRegs (· < wb) w (IsStates (· < wb) w 6) rs (.slice b n m)) (hlim:t.length+(regT (stateT 6) rs 1).length≤140737488355328) :
    Calls Tryz.prog 58 #[.pointer (some ⟨cb,0,none⟩),.pointer (some ⟨wb,0,none⟩)] w fun e w'=>e=.returned (.tuple #[])/\Wrote wb w v (t++regT (stateT 6) rs 1) 1 w':=by
 obtain ⟨c1,-⟩:=cel hcb 1 _ rfl
 obtain ⟨c2,-⟩:=cel hcb 2 _ rfl
 have hc:=regs_w 6 wb w v _ t 1 rs (by omega) hW hE hG hr hlim
 clear hr hG
 go_enter Tryz.func58,Tryz.ntmps58
 go_wp2_with fail
 refine wp_loop_rounds 1 ?_
 rw[rounds_succ]
 go_wp2_with (go_at_call 60;refine hc.mono ?_;rintro _ w1 ⟨rfl,hw1⟩)
 go_end0
 exact ⟨rfl,hw1⟩
set_option maxRecDepth 100000 in
set_option maxHeartbeats 4000000 in
theorem print1_some {wb cb cap m n g N:Nat}{w:World}{v c0:Value}{t:Str}{b:Option Addr}(vs:List Decl) (rs:List (List (St 6))) (hV:∀a∈vs,GoodDecl a) (hG:∀r∈rs,∀x∈r,OkSt 6 x) (hW:WAt wb w v t 1) (hE:WEnv wb w) (hcw:cb<wb) (hcb:w.heap[cb]?=some (.cells #[c0,.slice (some ⟨g,0,none⟩) N cap,.slice b n m] 28 (0,0)))
    (hN:Hid (N=vs.length)) (hm:N≤maxLen) (hgw:g<wb) (R:Hid (∀(i:Nat) (a:Decl),vs[i]?=some a->w.cell? ⟨g,i*3,none⟩=some (.int .i64 a.kind)/\w.cell? ⟨g,i*3+1,none⟩=some (sv a.name)/\w.cell? ⟨g,i*3+2,none⟩=some (.int .i64 a.first)))
    (hr:IsRegs (· < wb) w (IsStates (· < wb) w 6) rs (.slice b n m)) (hlim:t.length+(vs.flatMap declT++regT (stateT 6) rs 1).length≤140737488355328) :
    Calls Tryz.prog 58 #[.pointer (some ⟨cb,0,none⟩),.pointer (some ⟨wb,0,none⟩)] w fun e w'=>e=.returned (.tuple #[])/\Wrote wb w v (t++(vs.flatMap declT++regT (stateT 6) rs 1)) 1 w':=by
 have hN6:(N:Int)≤9223372036854775807:=by unfold maxLen at hm;omega
 obtain ⟨GT,hGT⟩:∃M:Str,Hid (M=regT (stateT 6) rs 1):=⟨_,rfl⟩
 rw[<-hGT.out] at hlim ⊢
 have HL:Hid (t.length+(vs.flatMap declT).length+GT.length≤140737488355328):=by rw[Hid];rw[List.length_append] at hlim;omega
 have HV:Hid _:=hV
 have HG:Hid _:=hG
 have HR:Hid _:=hr
 have S0:=WSt.start hW
 have lx:=S0.wlt
 clear hlim hm hV hG hr
 obtain ⟨c1,-⟩:=cel hcb 1 _ rfl
 go_enter Tryz.func58,Tryz.ntmps58
 go_wp2_with fail
 go_loopg [7] N (fun f i wr=>∃j:Nat,f=N-j/\j≤N/\i=.int .i64 j/\Hid (∃vx,WSt wb w v wr vx (t++(vs.take j).flatMap declT) 1))
 case atStart=>exact ⟨0,by omega,by omega,rfl,⟨v,by simpa using S0⟩⟩
 case round=>
  obtain ⟨j,rfl,hj,rfl,hrr⟩:=hrel
  obtain ⟨v5,S5⟩:=hrr.out
  by_cases hlt:j<N
  ·obtain ⟨a,hja⟩:∃a,Hid (vs[j]?=some a):=⟨vs[j]'(by rw[<-hN.out];exact hlt),by rw[Hid,List.getElem?_eq_getElem]⟩
   obtain ⟨T,hT⟩:∃T:Str,Hid (T=t++(vs.take j).flatMap declT):=⟨_,rfl⟩
   rw[<-hT.out] at S5
   obtain ⟨x0,x1,x2⟩:=R.out j a hja.out
   have hgk:wr.heap[g]?=w.heap[g]?:=(S5.keep g hgw (by omega)).2
   rw[<-World.cell?_of_block (w:=w) (a:=⟨g,j*3,none⟩) hgk] at x0
   rw[<-World.cell?_of_block (w:=w) (a:=⟨g,j*3+1,none⟩) hgk] at x1
   rw[<-World.cell?_of_block (w:=w) (a:=⟨g,j*3+2,none⟩) hgk] at x2
   rw[sv] at x1
   obtain ⟨S6,hb6,nb6,nv6⟩:=S5.at_.local #[.int .i64 a.kind,.string ⟨a.name.toArray⟩,.int .i64 a.first] 33
   have hE6:=(S5.alloc (.cells #[.int .i64 a.kind,.string ⟨a.name.toArray⟩,.int .i64 a.first] 33)).env hE
   have hout:∀wk t',Wrote wb (wr.alloc (.cells #[.int .i64 a.kind,.string ⟨a.name.toArray⟩,.int .i64 a.first] 33)) v5 t' 1 wk->∃vx,WSt wb w v wk vx t' 1:=fun wk t' h=>(S5.alloc _).step h
   have HB:Hid (T.length+(declT a).length≤140737488355328/\t++(vs.take (j+1)).flatMap declT=T++declT a):=by
    have e1:t++(vs.take (j+1)).flatMap declT=T++declT a:=by
     rw[take_snoc hja.out,List.flatMap_append,hT.out];simp[List.append_assoc]
    refine ⟨?_,e1⟩
    have h1:=congrArg List.length e1
    have h2:=flatMap_take_le declT vs (j+1)
    have h3:=HL.out
    simp only[List.length_append] at h1
    omega
   have HVa:Hid (GoodDecl a):=HV.out a (List.mem_of_getElem? hja.out)
   have hi0:(0:Int)≤(j:Int):=Int.natCast_nonneg _
   have hi1:(j:Int)<(N:Int):=by omega
   go_upto_region 3 with fail
   generalize wr.alloc (.cells #[.int .i64 a.kind,.string ⟨a.name.toArray⟩,.int .i64 a.first] 33)=W6 at S6 hb6 hE6 hout ⊢
   obtain ⟨r0,-⟩:=cel hb6 0 _ rfl
   obtain ⟨r1,-⟩:=cel hb6 1 _ rfl
   obtain ⟨r2,-⟩:=cel hb6 2 _ rfl
   go_wp2_with (go_at_call 59;refine (wvar_any a HVa.out S6.at_ hE6 HB.out.1).mono ?_;rintro _ w7 ⟨rfl,hw7⟩;obtain ⟨v7,S7⟩:=hout _ _ hw7)
   go_roundg (N-(j+1))
   case measure=>omega
   case rel=>exact ⟨j+1,rfl,by omega,by go_num,v7,by rw[HB.out.2];exact S7⟩
  ·have hjN:vs.take j=vs:=List.take_of_length_le (by rw[<-hN.out];omega)
   rw[hjN] at S5
   have hcb5:wr.heap[cb]?=_:=(S5.keep cb hcw (by omega)).2.trans hcb
   obtain ⟨c2,-⟩:=cel hcb5 2 _ rfl
   have hc:Hid _:=regs_w 6 wb wr v5 _ _ 1 rs (by omega) S5.at_ (S5.env hE) HG.out (IsRegs.carry S5.keep (IsStates.carry S5.keep 6) HR.out) (by rw[<-hGT.out];have:=HL.out;simp only[List.length_append];omega)
   go_wp2_with (go_at_call 60;refine (Calls.mono hc.out ?_);rintro _ w8 ⟨rfl,hw8⟩;rw[<-hGT.out] at hw8;obtain ⟨v8,S8⟩:=S5.step hw8)
   go_end0
   exact ⟨rfl,by have:=S8.out;simpa [List.append_assoc] using this⟩
end
end Go.Proofs.YtpogmfliojcnjaaGreatDoor
