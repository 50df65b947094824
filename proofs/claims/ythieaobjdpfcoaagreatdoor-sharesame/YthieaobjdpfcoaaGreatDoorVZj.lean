import Derived.Test.YthieaobjdpfcoaaGreatDoorVZf
set_option maxRecDepth 100000
set_option maxHeartbeats 8000000
namespace Go.Proofs.YthieaobjdpfcoaaGreatDoor
open Go.Proofs.Tryz (prog)
section
open Go.RowKit Px
namespace Sx
open Nx (Nt Sp aN3 bH get put iH)
open Ew (bM Up rS)
theorem zG {w:World}{q:Nat}{p:Int}(h:w.cell? ⟨q,0,none⟩=some (.int .i64 p)) (y:Int) :
 Calls prog 79 #[.int .i64 y,.pointer (some ⟨q,0,none⟩)] w fun e w'=>e=.returned (.bool (y==p))/\w'=w:=by
 go_enter Tryz.func79,Tryz.ntmps79
 go_wp2
 go_ret
 exact ⟨rfl,rfl⟩
abbrev pfV (q:Nat):Value:=.func (.func 79) #[] #[.pointer (some ⟨q,0,none⟩)]
theorem s8 {A:Nat->Prop}{w:World}{v:Value}{zs:List Int}{q:Nat}{p:Int}(hq:w.cell? ⟨q,0,none⟩=some (.int .i64 p)) (h:bH A w v zs) (hl:zs.length≤100000) (hm:p∈zs) :
 Calls prog 122 #[v,pfV q] w fun e w'=>e=.returned (.int .i64 (zs.idxOf p:Nat))/\w'=w:=by
 obtain ⟨ad,b,D,cap,rfl,h1,h2⟩:=h
 have HP:Hid ((0<zs.length->ad=some ⟨b,D,none⟩)/\∀k,k<zs.length->w.cell? ⟨b,D+k,none⟩=some (.int .i64 (zs.getD k 0))):=⟨fun h=>(h1 h).1,h2⟩
 obtain ⟨l,u⟩:=gQx zs.length
 have HL:Hid (l=zs.length):=u
 obtain ⟨r,U⟩:∃r:Nat,r=zs.idxOf p:=⟨_,rfl⟩
 have HR:Hid (zs[r]?=some p/\r<zs.length/\∀j,j<r->zs.getD j 0≠p):=by
  have X:=List.idxOf_lt_length_of_mem hm
  refine ⟨by rw[U,aN4 X,List.getElem_idxOf],by rw[U];exact X,fun j Y e=>?_⟩
  rw[U] at Y
  have:=List.not_of_lt_findIdx (p:=fun z=>z==p) (xs:=zs) Y
  rw[iO,aN4 (Nat.lt_trans Y X)] at e
  have e:zs[j]'(Nat.lt_trans Y X)=p:=e
  rw[e] at this
  simp at this
 have aa:Hid (∀y,Calls prog 79 #[.int .i64 y,.pointer (some ⟨q,0,none⟩)] w fun e w'=>e=.returned (.bool (y==p))/\w'=w):=fun y=>zG hq y
 rw[<-U,<-u]
 have ae:l≤100000:=by omega
 clear h1 h2 hl u U hm hq
 go_enter Tryz.func122,Tryz.ntmps122
 go_wp2
 go_loopw [8] (fun i wr=>∃k:Nat,k≤r/\i=.int .i64 k/\Hid (wr=w)) (fun i _=>l-(intOf i).toNat)
 case atStart=>exact ⟨0,aP6 _,rfl,rfl⟩
 case round=>
  obtain ⟨k,hk,rfl,HW⟩:=hrel
  obtain rfl:=HW.out.symm
  have af:r<l:=by rw[HL.out];exact HR.out.2.1
  have I:k<l:=by omega
  have ac:=Nx.Q7 ad b D l cap k I (fun h=>HP.out.1 (by rw[<-HL.out];exact h))
  obtain ⟨y,Q⟩:=gQx (zs.getD k 0)
  have s:k<zs.length:=by rw[<-HL.out];exact I
  have cy:=HP.out.2 k s
  rw[<-Q] at cy
  have n:=aa.out y
  by_cases hkr:k=r
  ·have J:y=p:=by
    have:=HR.out.1
    rw[<-hkr,aN4 s] at this
    rw[Q,iO,aN4 s]
    exact Option.some.inj this
   have O:(y==p)=true:=by simp[J]
   rw[O] at n
   have HE:Hid (k=r):=hkr
   clear Q J s hkr O
   go_wp2_with (go_at_call 79;refine n.mono ?_;rintro e w4 ⟨rfl,Z⟩;obtain rfl:=Z.symm)
   go_ret
   exact ⟨by rw[<-HE.out];rfl,rfl⟩
  ·have O:(y==p)=false:=by
    have:=HR.out.2.2 k (by omega)
    rw[<-Q] at this
    simpa using this
   rw[O] at n
   have ab:k+1≤r:=by omega
   clear Q s hkr O
   go_wp2_with (go_at_call 79;refine n.mono ?_;rintro e w4 ⟨rfl,Z⟩;obtain rfl:=Z.symm)
   go_roundw
   case rel=>exact ⟨k+1,ab,by go_num,by first|rfl|trivial⟩
   case measure=>simp[intOf];omega
abbrev lH (p:Int) (l:List Int):List Int:=l.filter (fun q=>!(q==p))
theorem Pg {w:World}{b cap n:Nat}{l:List Int}(h:iH 3 0 w (.slice (some ⟨b,0,none⟩) n cap) l) {i:Nat}(s:i≤l.length):iH 3 0 w (.slice (some ⟨b,0,none⟩) i cap) (l.take i):=by
 obtain ⟨O,h|⟨g,r,j,k,J,D,Q,u,I,y⟩⟩:=h
 ·exact absurd h.1 (by simp)
 ·simp only[Value.slice.injEq,Option.some.injEq,Addr.mk.injEq,and_true] at k
  obtain ⟨rfl,rfl,rfl⟩:=k
  refine ⟨by simp,.inr ⟨b,cap,j,by simp[Nat.min_eq_left s],J,D,by simp;omega,u,I,?_⟩⟩
  rw[List.map_take,<-y,List.take_take]
  simp[Nat.min_eq_left s]
theorem yQ {b cap:Nat}{l:List Int}:∀(vs:List Value) (o:Nat) (w:World),iH 3 0 w (.slice (some ⟨b,0,none⟩) l.length cap) l->l.length≤o->iH 3 0 (w.setCells b o vs) (.slice (some ⟨b,0,none⟩) l.length cap) l/\bM (fun c=>c=b) w (w.setCells b o vs)
 | [],_,w,h,_=>⟨h,bM.refl _ _⟩
 | v::vs,o,w,h,ho=>by
  have h1:=(World.ownsRow.stored h o v).1
  rw[List.set_eq_of_length_le (by simpa using ho)] at h1
  obtain ⟨h2,h3⟩:=yQ vs (o+1) (w.setCell ⟨b,o,none⟩ v) h1 (by omega)
  exact ⟨h2,((bM.refl (fun c=>c=b) w).setCell (p:=⟨b,o,none⟩) (.inl rfl) v).trans h3 fun _ _ h=>h⟩
theorem Zg (w:World):(zeroValue 3).run prog w=.ok (.int .i64 0) w:=by kernel_rfl
structure DI (w wr:World) (b cap:Nat) (p:Int) (l L:List Int) (i j:Nat):Prop where
 row:iH 3 0 wr (.slice (some ⟨b,0,none⟩) L.length cap) L
 len:L.length=l.length
 hd:L.take i=lH p (l.take j)
 tl:∀k,j≤k->L.getD k 0=l.getD k 0
 fr:bM (fun c=>c=b) w wr
theorem wI {L:List Int}{i:Nat}(h:i<L.length) (x:Int):(L.set i x).take (i+1)=L.take i++[x]:=by
 rw[List.take_add_one,List.getElem?_set_self h,List.take_set_of_le (aO4 _)]
 rfl
theorem DI.keep {w wr:World}{b cap:Nat}{p:Int}{l L:List Int}{i j:Nat}(h:DI w wr b cap p l L i j) (r:j<l.length) (y:i<j) (n:¬l.getD j 0=p):DI w (wr.setCell ⟨b,i,none⟩ (.int .i64 (l.getD j 0))) b cap p l (L.set i (l.getD j 0)) (i+1) (j+1):=by
 have s:=h.row
 have u:=(World.ownsRow.stored s i (.int .i64 (l.getD j 0))).1
 refine ⟨?_,by rw[aW4];exact h.len,?_,fun k D=>?_,h.fr.setCell (p:=⟨b,i,none⟩) (.inl rfl) _⟩
 ·show World.ownsRow _ 0 _ 1 (.slice (some ⟨b,0,none⟩) (L.set i _).length cap) (L.set i _).length _
  rw[aW4,List.map_set]
  exact u
 ·rw[wI (by rw[h.len];omega),h.hd,List.take_add_one,aN4 r]
  have e:l.getD j 0=l[j]:=by rw[iO,aN4 r];rfl
  rw[e] at n
  unfold lH
  rw[List.filter_append,e]
  congr 1
  simp[n]
 ·rw[iO,aX6 (by omega),<-iO]
  exact h.tl k (by omega)
theorem DI.drop {w wr:World}{b cap:Nat}{p:Int}{l L:List Int}{i j:Nat}(h:DI w wr b cap p l L i j) (r:j<l.length) (n:l.getD j 0=p):DI w wr b cap p l L i (j+1):=by
 refine ⟨h.row,h.len,?_,fun k s=>h.tl k (by omega),h.fr⟩
 rw[h.hd,List.take_add_one,aN4 r]
 have e:l.getD j 0=l[j]:=by rw[iO,aN4 r];rfl
 rw[e] at n
 simp[lH,List.filter_append,n]
theorem Ft {p:Int}:∀{l:List Int}{r:Nat},(∀j,j<r->l.getD j 0≠p)->l[r]?=some p->lH p (l.take (r+1))=l.take r:=by
 intro l r h s
 rw[List.take_add_one,s,lH,List.filter_append]
 have:(l.take r).filter (fun q=>!(q==p))=l.take r:=by
  rw[List.filter_eq_self]
  intro x hx
  obtain ⟨j,n,rfl⟩:=List.getElem_of_mem hx
  rw[List.length_take] at n
  have k:=h j (by omega)
  rw[iO,aN4 (by omega)] at k
  rw[List.getElem_take]
  simpa using k
 rw[this]
 simp
theorem Lp {w:World}{b cap:Nat}{l:List Int}{q:Nat}{p:Int}(hq:w.cell? ⟨q,0,none⟩=some (.int .i64 p)) (aa:q≠b) (h:iH 3 0 w (.slice (some ⟨b,0,none⟩) l.length cap) l) (hl:l.length≤100000) (hm:p∈l) :
 Calls prog 78 #[.slice (some ⟨b,0,none⟩) l.length cap,pfV q] w fun e w'=>e=.returned (.slice (some ⟨b,0,none⟩) (lH p l).length cap)/\Hid (iH 3 0 w' (.slice (some ⟨b,0,none⟩) (lH p l).length cap) (lH p l)/\bM (fun c=>c=b) w w'):=by
 have I:=s8 (A:=fun c=>0≤c/\c<w.heap.size) hq h.ints hl hm
 have h3:=List.idxOf_lt_length_of_mem hm
 obtain ⟨r,hr⟩:=gQx (l.idxOf p)
 rw[<-hr] at I h3
 have Y:l[r]?=some p:=by rw[hr,aN4 (by rw[<-hr];exact h3),List.getElem_idxOf]
 have X:∀j,j<r->l.getD j 0≠p:=fun j hj e=>by
  rw[hr] at hj
  have:=List.not_of_lt_findIdx (p:=fun z=>z==p) (xs:=l) hj
  rw[iO,aN4 (by omega)] at e
  have e:l[j]'(by omega)=p:=e
  rw[e] at this
  simp at this
 have HS:Hid (DI w w b cap p l l r (r+1)):=⟨h,rfl,(Ft X Y).symm,fun _ _=>rfl,bM.refl _ _⟩
 obtain ⟨n,hn⟩:=gQx l.length
 have O:Hid (n=l.length):=hn
 rw[<-hn] at I hl h3 ⊢
 have HB:Hid (q≠b/\w.cell? ⟨q,0,none⟩=some (.int .i64 p)):=⟨aa,hq⟩
 have ah:IntKind.i64.wrap ((r:Int)+1)=(r:Int)+1:=by rw[IntKind.wrap_i64];omega
 have t0:((r:Int) == -1)=false:=by simp
 clear h hm hr Y X hn hq aa
 go_enter Tryz.func78,Tryz.ntmps78
 go_wp2_with (go_at_call 122;refine I.mono ?_;rintro e w1 ⟨rfl,h1⟩;obtain rfl:=h1.symm;clear I)
 go_loopw [5,6] (fun i j wr=>∃(a c:Nat) (L:List Int),a<c/\c≤n/\i=.int .i64 a/\j=.int .i64 c/\Hid (DI w wr b cap p l L a c)) (fun i j _=>n-(intOf j).toNat)
 case atStart=>exact ⟨r,r+1,l,by omega,by omega,rfl,by go_num,HS.out⟩
 case round=>
  obtain ⟨a,c,L,Z,ae,rfl,rfl,s⟩:=hrel
  by_cases hlt:c<n
  ·have J:c<l.length:=by rw[<-O.out];exact hlt
   have ab:=Nx.Q7 (some ⟨b,0,none⟩) b 0 n cap c hlt (fun _=>rfl)
   have ac:=Nx.Q7 (some ⟨b,0,none⟩) b 0 n cap a (by omega) (fun _=>rfl)
   rw[aX3] at ab ac
   obtain ⟨y,hy⟩:=gQx (l.getD c 0)
   have k:=s.out.row
   have cy:wr.cell? ⟨b,c,none⟩=some (.int .i64 y):=by
    rw[hy,<-s.out.tl c (aO4 _),World.ownsRow.cellAt k c (by rw[s.out.len];omega),aW6,aN4 (by rw[s.out.len];exact J),iO,aN4 (by rw[s.out.len];exact J)]
    rfl
   have ca:wr.cell? ⟨b,a,none⟩=some (.int .i64 (L.getD a 0)):=by
    rw[World.ownsRow.cellAt k a (by rw[s.out.len];omega),aW6,aN4 (by rw[s.out.len];omega),iO,aN4 (by rw[s.out.len];omega)]
    rfl
   have fa:=World.ownsRow.frozenAt k a
   have u:=zG (w:=wr) (q:=q) (p:=p) (s.out.fr.cell HB.out.2 HB.out.1) y
   have HY:Hid (y=l.getD c 0):=hy
   by_cases hyp:y=p
   ·have t1:(y==p)=true:=by simp[hyp]
    rw[t1] at u
    have HE:Hid (l.getD c 0=p):=by rw[<-HY.out];exact hyp
    clear hy hyp t1 k J
    go_wp2_with (go_at_call 79;refine u.mono ?_;rintro e w4 ⟨rfl,h4⟩;obtain rfl:=h4.symm)
    go_roundw
    case rel=>exact ⟨a,c+1,L,by omega,by omega,rfl,by go_num,s.out.drop (by rw[<-O.out];exact hlt) HE.out⟩
    case measure=>simp[intOf];omega
   ·have t1:(y==p)=false:=by simp[hyp]
    rw[t1] at u
    have HE:Hid (¬l.getD c 0=p):=by rw[<-HY.out];exact hyp
    clear hy hyp t1 k J
    go_wp2_with (go_at_call 79;refine u.mono ?_;rintro e w4 ⟨rfl,h4⟩;obtain rfl:=h4.symm)
    go_roundw
    case rel=>exact ⟨a+1,c+1,L.set a (l.getD c 0),by omega,by omega,by go_num,by go_num,by
     have:=s.out.keep (by rw[<-O.out];exact hlt) Z HE.out
     rw[HY.out]
     exact this⟩
    case measure=>simp[intOf];omega
  ·obtain rfl:c=n:=by omega
   have k:=s.out.row
   have ad:a<l.length:=by rw[<-O.out];exact Z
   have D:L.take a=lH p l:=by
    have:=s.out.hd
    rw[O.out,aX7] at this
    exact this
   have U:a=(lH p l).length:=by rw[<-D,List.length_take,s.out.len];omega
   have ai:=Lib.run_clear_slice (P:=prog) wr 23 3 0 (.int .i64 0) Tryz.underlying23 Zg rfl rfl b a (c-a) (cap-a) (by omega) (fun j hj=>by
    rw[World.ownsRow.cellAt k (a+j) (by rw[s.out.len];have:=O.out;omega),aW6,aN4 (by rw[s.out.len,<-O.out];omega)]
    rfl) (fun j _=>World.ownsRow.frozenAt k (a+j))
   have Q:=Pg k (i:=a) (by rw[s.out.len];omega)
   rw[D] at Q
   obtain ⟨z1,z2⟩:=yQ (l:=lH p l) (cap:=cap) (List.replicate (c-a) (.int .i64 0)) a wr (by rw[<-U];exact Q) (by omega)
   have HZ:Hid (iH 3 0 (wr.setCells b a (List.replicate (c-a) (.int .i64 0))) (.slice (some ⟨b,0,none⟩) (lH p l).length cap) (lH p l)/\bM (fun c=>c=b) w (wr.setCells b a (List.replicate (c-a) (.int .i64 0)))/\a=(lH p l).length):=⟨z1,s.out.fr.trans z2 fun _ _ h=>h,U⟩
   have af:c≤cap:=by
    obtain ⟨_,h|⟨g,cp,ag,he,_,_,h5,_⟩⟩:=id k
    ·exact absurd h.1 (by simp)
    ·simp only[Value.slice.injEq] at he
     have e1:=s.out.len
     have e2:=O.out
     omega
   clear k D U Q z1 z2 ad
   go_wp2_with fail
   go_ret
   exact ⟨by rw[<-HZ.out.2.2];rfl,HZ.out.1,HZ.out.2.1⟩
open Fw (wA Si)
theorem aE1 {p q:Int}(h:p≠q):Lit.int .i64 p≠Lit.int .i64 q:=by intro e;injection e with _ e;exact h e
section
variable {P:Nat->Prop}{B:Nat}{w:World}{sb m Pn:Nat}{nums:List Int}{g:Sg}{c:Sv}
theorem SM.drew (h:SM P B w sb m nums g c):SM P B w.drew sb m nums g c:=h.below (Below.refl _ w).drew
theorem Eh {w1 w2:World}{old p:Int}{b cap:Nat}(h:SM P B w1 sb m nums g c) (hm:m≤100000) (I:jF old) (n:g.copies old≠[]) (hv:c.fv old=.slice (some ⟨b,0,none⟩) (g.copies old).length cap)
    (O:iH 3 0 w2 (.slice (some ⟨b,0,none⟩) (lH p (g.copies old)).length cap) (lH p (g.copies old))) (y:bM (fun d=>d=b) w1 w2) (J:lH p (g.copies old)≠[]) :
    ∃w3 n' ,(Instr.mapUpdate 59 (.map (some c.bc)) (.int .i64 old) (.slice (some ⟨b,0,none⟩) (lH p (g.copies old)).length cap)).run prog w2=.ok () w3/\
     SM P B w3 sb m nums { g with copies:=kZ g.copies old p } { c with nc:=n',fv:=fun u=>if u=old then .slice (some ⟨b,0,none⟩) (lH p (g.copies old)).length cap else c.fv u }/\bM P w1 w3:=by
 obtain ⟨f,X,D⟩:=h.cp
 have j:(cvS g c old).ownBlock=some b:=by unfold cvS;rw[if_neg n,hv];rfl
 have Y:w2.heap[c.bc]?=w1.heap[c.bc]?:=y.block _ (h.up.2 _ h.pb.2.2).2 fun e=>(h.rowP old b j).2.2.2.1 e.symm
 obtain ⟨w3,Q,s,r⟩:=(X.keep Y).put Si Tryz.underlying59 (by have:=h.few;unfold maxLen;omega) (Maps.keyOf_int_mk Tryz.underlying3 I.wf) (.slice (some ⟨b,0,none⟩) (lH p (g.copies old)).length cap)
 have k:(f (.int .i64 old)).isSome=true:=by rw[D old,if_neg n];rfl
 obtain ⟨U,Z⟩:=h.left (t:=old) (l:=lH p (g.copies old)) (f:=Gm.put f (.int .i64 old) (.slice (some ⟨b,0,none⟩) (lH p (g.copies old)).length cap)) (y.wide fun d _ e=>by rw[j,e]) (fun _=>⟨O,by rw[j];rfl⟩) r s (fun u=>by
  by_cases e:u=old
  ·subst e
   rw[Gm.pQ _ (by trivial),if_pos rfl,if_neg J]
  ·rw[Gm.kT _ _ (aE1 e),if_neg e];exact D u) (by rw[if_pos k];exact h.few.2.1) (aO6 (List.length_filter_le _ _) (h.lw old))
 exact ⟨w3,_,Q,U,Z⟩
theorem Ex {w1 w2:World}{old p:Int}{b cap:Nat}(h:SM P B w1 sb m nums g c) (J:jF old) (k:g.copies old≠[]) (Z:c.fv old=.slice (some ⟨b,0,none⟩) (g.copies old).length cap)
    (D:bM (fun d=>d=b) w1 w2) (n:lH p (g.copies old)=[]) (I:TypeId) :
    ∃w3 n',(Builtin.delete_ #[59,3] I #[.map (some c.bc),.int .i64 old]).run prog w2=.ok (.tuple #[]) w3/\
     SM P B w3 sb m nums { g with copies:=kZ g.copies old p } { c with nc:=n',fv:=fun u=>if u=old then .slice none 0 0 else c.fv u }/\bM P w1 w3:=by
 obtain ⟨f,U,h4⟩:=h.cp
 have j:(cvS g c old).ownBlock=some b:=by unfold cvS;rw[if_neg k,Z];rfl
 have X:w2.heap[c.bc]?=w1.heap[c.bc]?:=D.block _ (h.up.2 _ h.pb.2.2).2 fun e=>(h.rowP old b j).2.2.2.1 e.symm
 obtain ⟨w3,n',O,s,y,r⟩:=(U.keep X).del Si Tryz.underlying59 (Maps.keyOf_int_mk Tryz.underlying3 J.wf) I
 obtain ⟨Q,Y⟩:=h.left (t:=old) (l:=lH p (g.copies old)) (v:=.slice none 0 0) (f:=Gm.del f (.int .i64 old)) (D.wide fun d _ e=>by rw[j,e]) (fun x=>absurd n x) r s (fun u=>by
  by_cases e:u=old
  ·subst e
   rw[Gm.I3 _ (by trivial),if_pos rfl,if_pos n]
  ·rw[Gm.zP _ (aE1 e),if_neg e];exact h4 u) (aO6 y h.few.2.1) (by rw[n];exact aP6 _)
 exact ⟨w3,_,O,Q,Y⟩
theorem Eg {t p:Int}(h:SM P B w sb m nums g c) (hm:m<100000) (ht:jF t) :
    ∃v5 w5 w6 c',(Builtin.append_ #[23,23] 23 #[cvS g c t,.slice (some ⟨w.heap.size,0,none⟩) 1 1]).run prog (w.alloc (.cells #[.int .i64 p] 3))=.ok v5 w5/\
     (Instr.mapUpdate 59 (.map (some c.bc)) (.int .i64 t) v5).run prog w5=.ok () w6/\(∃a n k,v5=.slice (some a) n k)/\
     SM (Up P w w6) B w6 sb (m+1) nums { g with copies:=fun u=>if u=t then g.copies t++[p] else g.copies u } c'/\bM P w w6/\(∀d,d<w.heap.size->¬P d->w5.heap[d]?=w.heap[d]?)/\w5.heap[sb]?=w.heap[sb]?:=by
 obtain ⟨f,Z,h4⟩:=h.cp
 obtain ⟨r,cap,w5,X,l,j,I,U⟩:=Nx.aG9 (A:=fun _=>True) 23 3 Tryz.underlying23 Tryz.ckInfoInt 0 (w.alloc (.cells #[.int .i64 p] 3)) (cvS g c t) (.slice (some ⟨w.heap.size,0,none⟩) 1 1) (g.copies t) [p] ((h.rowC t).alloc _) ⟨_,w.heap.size,0,1,rfl,fun _=>⟨rfl,trivial⟩,fun k J=>by
  obtain rfl:k=0:=by simpa using J
  exact aF (aX _ _) 0 rfl⟩ (aP6 _) (.inr (by simp)) (by have:=h.lw t;simp;omega)
 have J:w5.heap[c.bc]?=w.heap[c.bc]?:=by
  have y:=(h.up.2 _ h.pb.2.2).2
  rw[j.block _ (by simp;omega) fun e=>(h.rowP t _ e.symm).2.2.2.1 rfl,Below.heap_alloc _ _ _ y]
 obtain ⟨w6,O,s,D⟩:=(Z.keep J).put Si Tryz.underlying59 (by have:=h.few;unfold maxLen;omega) (Maps.keyOf_int_mk Tryz.underlying3 ht.wf) (.slice (some ⟨r,0,none⟩) ((g.copies t).length+1) cap)
 obtain ⟨Y,s2⟩:=h.moreC (t:=t) (p:=p) (w0:=w.alloc (.cells #[.int .i64 p] 3)) (v:=.slice (some ⟨r,0,none⟩) ((g.copies t).length+1) cap) (f:=Gm.put f (.int .i64 t) (.slice (some ⟨r,0,none⟩) ((g.copies t).length+1) cap)) (aL _ _) l j (fun b hb=>by
  obtain rfl:r=b:=by simpa [Value.ownBlock] using hb
  exact I) D s (fun u=>by
  by_cases e:u=t
  ·subst e
   rw[Gm.pQ _ (by trivial),if_pos rfl]
  ·rw[Gm.kT _ _ (aE1 e),if_neg e];exact h4 u) (by have:=h.few;split<;>omega) hm
 refine ⟨_,w5,w6,_,X,O,⟨_,_,_,rfl⟩,Y,s2,fun d hd Q=>?_,?_⟩
 ·rw[j.block d (by simp;omega) fun e=>Q (h.rowP t d e.symm).1,Below.heap_alloc _ _ _ hd]
 ·have y:=(h.up.2 _ h.pb.1).2
  rw[j.block sb (by simp;omega) fun e=>(h.rowP t sb e.symm).2.1 rfl,Below.heap_alloc _ _ _ y]
end
attribute [-go_sem] Builtin.append_
section
variable {P:Nat->Prop}{B:Nat}{w:World}{sb m Pn:Nat}{nums:List Int}{g:Sg}{c:Sv}
theorem nU (h:SM P B w sb m nums g c) (hI:Inv Pn g) (hm:m<100000) {k:Nat}{t:Int}(hp:k<Pn) (ht:0≤t/\t≤m) :
 Calls prog 47 #[.pointer (some ⟨sb,0,none⟩),.int .i64 (k:Int),.int .i64 t] w fun e w'=>e=.returned (.tuple #[])/\Hid (∃c',SM (Up P w w') B w' sb (m+1) nums (wC g k t) c'/\bM P w w'):=by
 have hf:=h.few
 obtain ⟨old,hold⟩:=gQx (get g.there k)
 have au:=hI.tr k (by omega) (by omega)
 rw[<-hold] at au
 have aj:jF old:=by unfold jF;omega
 have aw:jF t:=by unfold jF;omega
 have D:(k:Int)∈g.copies old:=(hI.cp _ _).2 ⟨⟨by omega,by omega⟩,hold.symm⟩
 have s:g.copies old≠[]:=fun e=>by rw[e] at D;cases D
 obtain ⟨q,hq⟩:=gQx w.heap.size
 obtain ⟨W,hW⟩:=gQx (w.alloc (.cells #[.int .i64 (k:Int)] 3))
 have bW:Below w.heap.size w W:=by rw[hW];exact aL _ _
 have kW:W.heap[q]?=some (.cells #[.int .i64 (k:Int)] 3 (0,0)):=by rw[hW,hq];exact aX _ _
 have Y:SM P B W.drew sb m nums g c:=(h.below bW).drew
 have ad:¬P q:=fun e=>by have:=(h.up.2 q e).2;omega
 obtain ⟨bT,J,ae,av,az⟩:=pU Y.rt (fun e=>by have:=hI.tl;rw[e] at this;simp at this;omega)
 have U:k<g.there.length:=by rw[hI.tl];exact hp
 have ck:=av k U
 rw[show g.there.getD k 0=old by rw[hold,Nx.Yb]] at ck
 obtain ⟨bC,aa,O,ay,-⟩:=pU (Y.rw old s) s
 have ag:=Y.lookC aj
 rw[show cvS g c old=c.fv old from if_neg s,O] at ag
 have y:=Lp (w:=W.drew) (q:=q) (p:=(k:Int)) (aF kW 0 rfl) (fun e=>ad (by rw[e];exact (Y.pw old s bC (by rw[O];rfl)).1)) (by have:=Y.rw old s;rw[O] at this;exact this) (by have:=Y.lw old;omega) D
 obtain ⟨-,c1,c2,-,-,-,-⟩:=Y.cells
 rw[ae] at c2
 have cq:W.drew.cell? ⟨q,0,none⟩=some (.int .i64 (k:Int)):=aF kW 0 rfl
 have ak:=Nx.Q7 (some ⟨bT,0,none⟩) bT 0 g.there.length J k U (fun _=>rfl)
 rw[aX3] at ak
 obtain ⟨n,hn⟩:=gQx g.there.length
 obtain ⟨l,hl⟩:=gQx ((g.copies old).length)
 obtain ⟨d,hd⟩:=gQx ((lH (k:Int) (g.copies old)).length)
 have I:Hid (SM P B w sb m nums g c/\SM P B W.drew sb m nums g c/\Below w.heap.size w W/\W.heap[q]?=some (.cells #[.int .i64 (k:Int)] 3 (0,0))/\q=w.heap.size/\¬P q):=⟨h,Y,bW,kW,hq,ad⟩
 have j:Hid (c.vT=.slice (some ⟨bT,0,none⟩) n J/\c.fv old=.slice (some ⟨bC,0,none⟩) l aa/\g.copies old≠[]/\n=g.there.length/\l=(g.copies old).length/\d=(lH (k:Int) (g.copies old)).length/\old=get g.there k/\k<n):=⟨by rw[hn];exact ae,by rw[hl];exact O,s,hn,hl,hd,hold,by rw[hn];exact U⟩
 rw[<-hl] at ag y
 rw[<-hd] at y
 rw[<-hn] at c2 ak
 have HN:Hid (jF old/\jF t/\m<100000/\Inv Pn g/\k<Pn):=⟨aj,aw,hm,hI,hp⟩
 clear h Y bW kW ad ae av az U O ay s D au hold hn hl hd hI aj aw hm hp hf ht
 go_enter Tryz.func47,Tryz.ntmps47
 go_upto_region 1 with fail
 rw[<-hW,<-hq]
 clear hW hq
 go_region
 all_goals
  go_upto_region 3 with (go_at_call 78;refine y.mono ?_;rintro e w2 ⟨rfl,h2⟩;clear y)
  clear ag c1 c2 cq ck
  have key:∃w3 c3,(if 0<d then (Instr.mapUpdate 59 (.map (some c.bc)) (.int .i64 old) (.slice (some ⟨bC,0,none⟩) d aa)).run prog w2=.ok () w3 else (Builtin.delete_ #[59,3] 0 #[.map (some c.bc),.int .i64 old]).run prog w2=.ok (.tuple #[]) w3)/\
      SM P B w3 sb m nums { g with copies:=kZ g.copies old k } c3/\bM P W.drew w3/\c3.bc=c.bc/\c3.vT=c.vT:=by
   by_cases hd0:lH (k:Int) (g.copies old)=[]
   ·obtain ⟨w3,n',e1,e2,e3⟩:=Ex I.out.2.1 HN.out.1 j.out.2.2.1 (by rw[j.out.2.1,j.out.2.2.2.2.1]) h2.out.2 hd0 0
    exact ⟨w3,_,by rw[if_neg (by rw[j.out.2.2.2.2.2.1,hd0];simp)];exact e1,e2,e3,rfl,rfl⟩
   ·obtain ⟨w3,n',e1,e2,e3⟩:=Eh I.out.2.1 (Nat.le_of_lt HN.out.2.2.1) HN.out.1 j.out.2.2.1 (by rw[j.out.2.1,j.out.2.2.2.2.1]) (by have:=h2.out.1;rw[j.out.2.2.2.2.2.1] at this;exact this) h2.out.2 hd0
    refine ⟨w3,_,?_,e2,e3,rfl,rfl⟩
    rw[if_pos (by rw[j.out.2.2.2.2.2.1];exact List.length_pos_iff.2 hd0),j.out.2.2.2.2.2.1]
    exact e1
  obtain ⟨w3,c3,Z,e2,e3,e4,e5⟩:=key
  have an:(cvS g c old).ownBlock=some bC:=by unfold cvS;rw[if_neg j.out.2.2.1,j.out.2.1];rfl
  have k2:=h2.out.2.heap I.out.2.1.hk (fun e=>(I.out.2.1.rowP old bC an).2.1 e.symm)
  have d1:=aF k2 1 (u:=.map (some c.bc)) rfl
  have q3:w3.heap[q]?=some (.cells #[.int .i64 (k:Int)] 3 (0,0)):=e3.heap I.out.2.2.2.1 I.out.2.2.2.2.2
  have Q:=e2.drew
  obtain ⟨-,-,z2,-,-,-,-⟩:=Q.cells
  rw[e5,j.out.1] at z2
  have zr:=Q.rt
  rw[e5,j.out.1] at zr
  have al:k<n:=j.out.2.2.2.2.2.2.2
  have zk:w3.drew.cell? ⟨bT,k,none⟩=some (.int .i64 (g.there.getD k 0)):=by
   rw[World.ownsRow.cellAt (n:=n) (by have:=zr;rw[j.out.2.2.2.1] at this ⊢;exact this) k (by omega),aW6,aN4 (by rw[<-j.out.2.2.2.1];exact al),iO,aN4 (by rw[<-j.out.2.2.2.1];exact al)]
   rfl
  have zf:w3.drew.frozen? ⟨bT,k,none⟩=false:=World.ownsRow.frozenAt (n:=n) (by have:=zr;rw[j.out.2.2.2.1] at this ⊢;exact this) k
  have zq:w3.drew.cell? ⟨q,0,none⟩=some (.int .i64 (k:Int)):=aF q3 0 rfl
  obtain ⟨X,hX⟩:=gQx ((w3.setCell ⟨bT,k,none⟩ (.int .i64 t)).drew)
  have r:=Q.setT (bT:=bT) (cap:=J) (by rw[e5,j.out.1,j.out.2.2.2.1]) (k:Int) t (by omega)
  rw[aW9,show w3.drew.setCell ⟨bT,k,none⟩ (.int .i64 t)=X from hX.symm] at r
  have fX:bM P W.drew X:=e3.drew.trans r.2 fun _ _ h=>h
  have qX:X.heap[q]?=some (.cells #[.int .i64 (k:Int)] 3 (0,0)):=fX.heap I.out.2.2.2.1 I.out.2.2.2.2.2
  obtain ⟨v5,w5,w6,c6,ac,ba,⟨a5,n5,k5,bb⟩,ao,ah,ax,ab⟩:=Eg (t:=t) (p:=(k:Int)) r.1.drew HN.out.2.2.1 HN.out.2.1
  have af:=r.1.drew.lookC HN.out.2.1
  obtain ⟨a0,n0,ai,-⟩:=(r.1.drew.rowC t).form
  obtain ⟨vl,ap⟩:=gQx ((kZ g.copies old k t).length)
  rw[ai] at af ac
  rw[e4] at af ba
  subst bb
  have ar:(Builtin.append_ #[23,23] 23 #[.slice a0 (kZ g.copies old k t).length n0,.slice (some ⟨X.heap.size,0,none⟩) 1 1]).run prog (X.alloc (.cells #[.int .i64 (k:Int)] 3)).drew=.ok (.slice (some a5) n5 k5) w5:=ac
  have am:(Instr.lookup 59 (.map (some c.bc)) (.int .i64 t) false).run prog (X.alloc (.cells #[.int .i64 (k:Int)] 3)).drew=.ok (.slice a0 (kZ g.copies old k t).length n0) (X.alloc (.cells #[.int .i64 (k:Int)] 3)).drew:=by
   have:=(r.1.below (aL X (.cells #[.int .i64 (k:Int)] 3))).drew.lookC HN.out.2.1
   rw[ai,e4] at this
   exact this
  rw[<-ap] at af am ar
  have x1:X.drew.cell? ⟨sb,1,none⟩=some (.map (some c.bc)):=by rw[<-e4];exact r.1.drew.cells.2.1
  have bg:(X.alloc (.cells #[.int .i64 (k:Int)] 3)).drew.cell? ⟨sb,1,none⟩=some (.map (some c.bc)):=aN (aL X _) x1
  have bf:w5.cell? ⟨sb,1,none⟩=some (.map (some c.bc)):=by rw[aY6 ab];exact x1
  have xq:X.drew.cell? ⟨q,0,none⟩=some (.int .i64 (k:Int)):=aF qX 0 rfl
  have HF:Hid (∃c',SM (Up P w w6) B w6 sb (m+1) nums (wC g k t) c'/\bM P w w6):=by
   have f1:bM P w X:=(bM.of_below (P:=P) I.out.2.2.1.drew).trans fX fun _ _ h=>h
   have be:wC g k t=⟨g.made,fun x=>if x=t then kZ g.copies old k t++[(k:Int)] else kZ g.copies old k x,put g.there k t,g.things,g.code⟩:=by rw[j.out.2.2.2.2.2.2.1];rfl
   rw[be]
   refine ⟨c6,ao.carry (fun _ _=>rfl) (fun _ _ _=>rfl) (aO4 _) (fun b hb=>?_) (fun b hb=>?_),f1.drew.trans ah fun _ _ h=>h⟩
   ·exact hb.elim .inl fun h=>.inr ⟨aO6 f1.size h.1,h.2⟩
   ·rcases hb with hb|hb
    ·exact ⟨(I.out.1.up.2 b hb).1,aO5 (I.out.1.up.2 b hb).2 (f1.drew.trans ah fun _ _ h=>h).size⟩
    ·exact ⟨aO6 I.out.1.up.1 hb.1,hb.2⟩
  clear ac ao ah ax ab r fX qX ai ap e2 e3 e4 e5 Q zr an k2 q3 I j HN h2
  by_cases hd0:0<d
  ·rw[if_pos hd0] at Z
   go_upto_region 6 with fail
   go_region
   all_goals
    go_upto_region 7 with fail
    rw[<-hX]
    clear hX
    go_region
    all_goals
     go_wp2_with fail
     go_end0
     exact ⟨rfl,HF.out⟩
  ·rw[if_neg hd0] at Z
   obtain rfl:d=0:=by omega
   go_upto_region 6 with fail
   go_region
   all_goals
    go_upto_region 7 with fail
    rw[<-hX]
    clear hX
    go_region
    all_goals
     go_wp2_with fail
     go_end0
     exact ⟨rfl,HF.out⟩
end
end Sx
end
section
open Go.RowKit Px
namespace Sx
open Nx (Nt Sp aN3 bH get put iH eA cR)
open Ew (bM Up rS)
open Fw (wA X4 Ur)
theorem aO3 (ad:Option Addr) (b h n cap:Nat) (i:Int) (k:0≤i) (l:i<n) (j:0<n->ad=some ⟨b,h,none⟩) (w:World):(Instr.indexAt 22 (.slice ad n cap) (.int .i64 i)).run prog w=.ok (.pointer (some ⟨b,h+i.toNat,none⟩)) w:=by
 obtain rfl:=j (by omega)
 rw[aY8 _ _ _ _ _ _ _ (by kernel_rfl),if_pos ⟨by omega,by omega⟩]
 have e:(sizeOf (prog.elem 22)).run prog w=.ok 1 w:=by kernel_rfl
 rw[e]
 simp[Result.andThen,Addr.add]
section
variable {P:Nat->Prop}{B:Nat}{w:World}{sb m Pn:Nat}{nums:List Int}{g:Sg}{c:Sv}
theorem yY {h:Sp}(s:SM P B w sb m nums g c) (O:m≤100000) (Q:c.nm<m) (r:N5 h) (k:Int) :
    ∃w' c',(Instr.mapUpdate 58 (.map (some c.bm)) (wA h) (.int .i64 k)).run prog w=.ok () w'/\SM P B w' sb m nums { g with made:=fun x=>if Lk x h=true then some k else g.made x } c'/\bM P w w':=by
 obtain ⟨f,J,y⟩:=s.md
 obtain ⟨w',D,l,j⟩:=J.put stepLaw Tryz.underlying58 (by unfold maxLen;omega) (wF r) (.int .i64 k)
 obtain ⟨I,u⟩:=s.putM (mk:=fun x=>if Lk x h=true then some k else g.made x) l (fun x hx=>by
  by_cases e:x=h
  ·subst e
   rw[Gm.pQ _ (stepLaw.key (wF hx)),if_pos ((nV _ _).2 rfl)];rfl
  ·rw[Gm.kT _ _ (fun n=>e (Rs hx r n)),if_neg (fun n=>e ((nV _ _).1 n))]
   exact y x hx) j (by split<;>omega)
 exact ⟨w',_,D,I,u⟩
theorem Uw (y:Inv Pn g) (I:g.things≤100000) {s:Sp}(n:eA (Pn:Int) nums.length s=0) (D:nums.length≤100000):N5 (jY nums g.there s):=by
 have hd:=Nx.sD n
 have J:=Nx.Yj n
 have r:∀p∈aN3 s,jF (get g.there p):=fun p r=>by
  have:=aX8.1 hd.2 p r
  unfold cR at this
  simp only[Bool.and_eq_true,decide_eq_true_eq] at this
  have:=y.tr p this.1 this.2
  unfold jF;omega
 have z:∀x,(¬s.code=1->x=0)->s.code≠1->jF x:=fun x h e=>by rw[h e];unfold jF;omega
 have u:jF ((nums.idxOf (get nums s.a):Nat):Int):=by have:=List.idxOf_le_length (a:=get nums s.a) (l:=nums);unfold jF;omega
 have j:(([s.a,s.b,s.c].drop (if s.code=1 then 1 else (aN3 s).length)).any (· != 0))=false:=by
  unfold eA at n
  rw[if_neg (by omega),if_neg (fun x=>x hd)] at n
  by_cases a3:s.code=1/\¬(0≤s.a/\s.a<nums.length)
  ·rw[if_pos a3] at n;omega
  rw[if_neg a3] at n
  by_cases a4:([s.a,s.b,s.c].drop (if s.code=1 then 1 else (aN3 s).length)).any (· != 0)=true
  ·rw[if_pos a4] at n;omega
  ·exact Bool.eq_false_iff.2 a4
 have k:jF 0:=by unfold jF;omega
 unfold N5 jY
 refine ⟨by show jF s.code;unfold jF;omega,k,?_,?_,?_⟩
 ·show jF (if s.code=1 then _ else _)
  split
  ·exact u
  ·rename_i c1
   rw[if_neg c1] at j
   rcases mF s with e|e|e|e
   ·simp[e] at j
    simp[bL,e,j,k]
   all_goals
    simp only[bL,e]
    simp
    exact r _ (by rw[e];simp)
 ·by_cases c1:s.code=1
  ·have e:=rT c1
   rw[if_pos c1] at j
   simp at j
   simp[bL,e,j,k]
  ·rw[if_neg c1] at j
   rcases mF s with e|e|e|e
   ·simp[e] at j
    simp[bL,e,j,k]
   ·simp[e] at j
    simp[bL,e,j,k]
   all_goals
    simp only[bL,e]
    simp
    exact r _ (by rw[e];simp)
 ·by_cases c1:s.code=1
  ·have e:=rT c1
   rw[if_pos c1] at j
   simp at j
   simp[bL,e,j,k]
  ·rw[if_neg c1] at j
   rcases mF s with e|e|e|e
   ·simp[e] at j
    simp[bL,e,j,k]
   ·simp[e] at j
    simp[bL,e,j,k]
   ·simp[e] at j
    simp[bL,e,j,k]
   ·simp only[bL,e]
    simp
    exact r _ (by rw[e];simp)
structure TI (P:Nat->Prop) (B:Nat) (w Y:World) (sb q q5 m:Nat) (nums:List Int) (g:Sg) (c:Sv) (s:Sp) (h0 h1 h2 h3 h4:Int):Prop where
 bel:Below w.heap.size w Y
 sm:SM P B Y sb m nums g c
 b1:Y.heap[q]?=some (.cells #[.pointer (some ⟨sb,0,none⟩)] 53 (0,0))
 b2:Y.heap[q+1]?=some (.cells #[.int .i64 s.code,.int .i64 s.dst,.int .i64 s.a,.int .i64 s.b,.int .i64 s.c] 38 (0,0))
 b5:Y.heap[q5]?=some (.cells #[.int .i64 h0,.int .i64 h1,.int .i64 h2,.int .i64 h3,.int .i64 h4] 38 (0,0))
 nq:q=w.heap.size/\q+1<q5
theorem TI.set {Y:World}{q k:Nat}{s:Sp}{u I r y D:Int}(h:TI P B w Y sb q k m nums g c s u I r y D) (j:Nat) (x:Int) {O l1 l2 Q J:Int}(U:[Value.int .i64 u,.int .i64 I,.int .i64 r,.int .i64 y,.int .i64 D].set j (.int .i64 x)=[.int .i64 O,.int .i64 l1,.int .i64 l2,.int .i64 Q,.int .i64 J]) (hB:∀b,P b->b<w.heap.size):TI P B w (Y.setCell ⟨k,j,none⟩ (.int .i64 x)) sb q k m nums g c s O l1 l2 Q J:=by
 have n:∀b,b≠k->(Y.setCell ⟨k,j,none⟩ (.int .i64 x)).heap[b]?=Y.heap[b]?:=fun b hb=>Below.heap_setCell _ _ _ _ hb
 have X:=h.nq
 refine ⟨h.bel.setCell (p:=⟨k,j,none⟩) (by show w.heap.size≤k;omega) _,h.sm.carry (fun b hb=>n b fun e=>by have:=hB b hb;omega) (fun b hb _=>n b fun e=>?_) (by simp[World.setCell]) (fun _ h=>h) (fun b hb=>by simp[World.setCell];exact h.sm.up.2 b hb),by rw[n _ (by omega)];exact h.b1,by rw[n _ (by omega)];exact h.b2,?_,X⟩
 ·have:=(h.sm.up.2 sb h.sm.pb.1).1
  have:=hB sb h.sm.pb.1
  omega
 ·have:=cH (l:=[Value.int .i64 u,.int .i64 I,.int .i64 r,.int .i64 y,.int .i64 D]) h.b5 j (.int .i64 x)
  rw[U] at this
  exact this
theorem TI.next {Y Y':World}{q q5:Nat}{s:Sp}{h0 h1 h2 h3 h4:Int}(h:TI P B w Y sb q q5 m nums g c s h0 h1 h2 h3 h4) (hb:Below Y.heap.size Y Y'):TI P B w Y' sb q q5 m nums g c s h0 h1 h2 h3 h4:=
 ⟨h.bel.trans (hb.mono h.bel.size),h.sm.below hb,aD hb h.b1,aD hb h.b2,aD hb h.b5,h.nq⟩
def Ou (P:Nat->Prop) (B:Nat) (w w':World) (sb m:Nat) (nums:List Int) (g:Sg):Prop:=∃c,SM P B w' sb m nums g c/\bM P w w'
theorem Dj (h:SM P B w sb m nums g c) (hI:Inv Pn g) (hm:m<100000) {s:Sp}(hs:eA (Pn:Int) nums.length s=0) (az:Pn≤4000) (bf:nums.length≤4000) :
 Calls prog 43 #[.pointer (some ⟨sb,0,none⟩),wA s] w fun e w'=>e=.returned (.int .i64 (dQ nums g s))/\Hid (Ou P B w w' sb (m+1) nums (eX nums g s)):=by
 obtain ⟨U,hU⟩:=gQx (w.alloc (.cells #[.pointer (some ⟨sb,0,none⟩)] 53))
 obtain ⟨W,hW⟩:=gQx (U.alloc (.cells #[.int .i64 s.code,.int .i64 s.dst,.int .i64 s.a,.int .i64 s.b,.int .i64 s.c] 38))
 obtain ⟨q,hq⟩:=gQx w.heap.size
 have sU:U.heap.size=q+1:=by rw[hU,hq];simp
 have sW:W.heap.size=q+1+1:=by rw[hW];simp[sU]
 have b1:Below w.heap.size w U:=by rw[hU];exact aL _ _
 have b2:Below U.heap.size U W:=by rw[hW];exact aL _ _
 have bW:=aQ b1 b2
 have k1:W.heap[q]?=some (.cells #[.pointer (some ⟨sb,0,none⟩)] 53 (0,0)):=aD b2 (by rw[hU,hq];exact aX w _)
 have k2:W.heap[q+1]?=some (.cells #[.int .i64 s.code,.int .i64 s.dst,.int .i64 s.a,.int .i64 s.b,.int .i64 s.c] 38 (0,0)):=by rw[<-sU,hW];exact aX U _
 have hc:=Nx.Yj hs
 have hd:=Nx.sD hs
 have hr:∀p∈aN3 s,0≤p/\p<Pn:=fun p hp=>by
  have:=aX8.1 hd.2 p hp
  unfold cR at this
  simpa only[Bool.and_eq_true,decide_eq_true_eq] using this
 obtain ⟨s0,s1,s2,s3,s4⟩:=Ur k2
 have av:=aF k1 0 (u:=.pointer (some ⟨sb,0,none⟩)) rfl
 have HH:Hid (SM P B w sb m nums g c/\SM P B W sb m nums g c/\Below w.heap.size w W/\W.heap[q]?=some (.cells #[.pointer (some ⟨sb,0,none⟩)] 53 (0,0))/\W.heap[q+1]?=some (.cells #[.int .i64 s.code,.int .i64 s.dst,.int .i64 s.a,.int .i64 s.b,.int .i64 s.c] 38 (0,0))/\q=w.heap.size/\W.heap.size=q+1+1):=⟨h,h.below bW,bW,k1,k2,hq,sW⟩
 have HI:Hid (Inv Pn g/\eA (Pn:Int) nums.length s=0/\Pn≤4000/\nums.length≤4000/\m<100000/\∀p∈aN3 s,0≤p/\p<Pn):=⟨hI,hs,az,bf,hm,hr⟩
 rw[hU] at hW
 clear hU sU sW b1 b2 k1 k2
 obtain ⟨D,sd,l,r,se⟩:=s
 by_cases c2:D=2
 ·have af:=hr l (by unfold aN3;rw[if_pos (.inl c2)];simp)
  have aj:=(h.below bW).drew
  obtain ⟨bT,br,bn,bu,-⟩:=pU aj.rt (fun e=>by have:=hI.tl;rw[e] at this;simp at this;omega)
  obtain ⟨-,-,d2,-,-,-,-⟩:=aj.cells
  rw[bn] at d2
  obtain ⟨k,rfl⟩:∃k:Nat,l=k:=⟨l.toNat,by omega⟩
  have bc:k<g.there.length:=by rw[hI.tl];omega
  have ck:=bu k bc
  have ai:=Nx.Q7 (some ⟨bT,0,none⟩) bT 0 g.there.length br k bc (fun _=>rfl)
  rw[aX3] at ai
  have hT:dQ nums g ⟨D,sd,(k:Int),r,se⟩=g.there.getD k 0:=by unfold dQ;rw[if_pos c2,Nx.Yb]
  have HG:Hid (Ou P B w W.drew sb (m+1) nums (eX nums g ⟨D,sd,(k:Int),r,se⟩)):=by
   unfold Hid Ou eX
   rw[if_pos c2]
   exact ⟨c,aj.more (by omega) (by omega),bM.of_below bW.drew⟩
  rw[hT]
  obtain ⟨y,hy⟩:=gQx (g.there.getD k 0)
  obtain ⟨n,hn⟩:=gQx g.there.length
  rw[<-hy] at ck ⊢
  rw[<-hn] at d2 ai
  have t1:(D==2)=true:=by simp[c2]
  have ch:W.drew.cell? ⟨q,0,none⟩=some (.pointer (some ⟨sb,0,none⟩)):=av
  have cg:W.drew.cell? ⟨q+1,2,none⟩=some (.int .i64 (k:Int)):=s2
  clear h hI hs az bf hm hr hc hd bW aj bn bu bc hT hy hn c2 af HH HI
  go_enter Tryz.func43,Tryz.ntmps43
  go_upto_region 1 with fail
  rw[<-hW,<-hq]
  clear hW hq
  go_upto_region 2 with fail
  go_region
  all_goals
   go_wp2_with fail
   go_ret
   exact ⟨rfl,HG⟩
 ·have au:=Uw hI (by have:=h.few;omega) hs (by omega)
  have t2:(D==2)=false:=by simp[c2]
  obtain ⟨h0,h1,J,h3,h4,ag⟩:∃h0 h1 J h3 h4,jY nums g.there ⟨D,sd,l,r,se⟩=⟨h0,h1,J,h3,h4⟩:=⟨_,_,_,_,_,rfl⟩
  obtain ⟨u0,u1,u2,u3,u4,Z⟩:∃u0 u1 u2 u3 u4,bL (get g.there) ⟨D,sd,l,r,se⟩=⟨u0,u1,u2,u3,u4⟩:=⟨_,_,_,_,_,rfl⟩
  have bj:(h0,h1,J,h3,h4)=(u0,(0:Int),(if D=1 then (nums.idxOf (get nums l):Int) else u2),u3,u4):=by
   have e:=ag
   unfold jY at e
   rw[Z] at e
   simp only[Sp.mk.injEq] at e
   have e0:D=u0:=by have:=congrArg Sp.code Z;exact this
   simp only[Prod.mk.injEq]
   obtain ⟨x0,x1,x2,x3,x4⟩:=e
   exact ⟨by rw[<-x0,e0],x1.symm,x2.symm,x3.symm,x4.symm⟩
  simp only[Prod.mk.injEq] at bj
  have bw:Calls prog 45 #[wA ⟨D,sd,l,r,se⟩,.func (.func 75) #[] #[.pointer (some ⟨q,0,none⟩)]] W fun e w'=>e=.returned (wA ⟨u0,u1,u2,u3,u4⟩)/\Hid (Below W.heap.size W w'):=by
   rw[<-Z]
   exact F2 (.inl rfl) fun V hV p hp=>(O0 (HH.out.2.1.below hV) (aN hV av) (by have:=hr p hp;rw[hI.tl];exact this)).mono fun e w' ⟨he,hw⟩=>⟨he,by rw[hw];exact Below.refl _ _⟩
  have HW:Hid (h0=u0/\h1=0/\(J=if D=1 then (nums.idxOf (get nums l):Int) else u2)/\h3=u3/\h4=u4):=bj
  rw[ag] at au
  have HN:Hid (N5 ⟨h0,h1,J,h3,h4⟩/\jY nums g.there ⟨D,sd,l,r,se⟩=⟨h0,h1,J,h3,h4⟩/\¬D=2):=⟨au,ag,c2⟩
  clear h hI hs az bf hm hr hc hd bW au ag Z bj
  go_enter Tryz.func43,Tryz.ntmps43
  go_upto_region 1 with fail
  rw[<-hW,<-hq]
  clear hW hq
  go_upto_region 4 with (go_at_call 45;refine bw.mono ?_;rintro e w1 ⟨rfl,bi⟩;clear bw)
  obtain ⟨X,hX⟩:=gQx (w1.alloc (.cells #[.int .i64 u0,.int .i64 u1,.int .i64 u2,.int .i64 u3,.int .i64 u4] 38))
  obtain ⟨I,bh⟩:=gQx w1.heap.size
  have bZ:Below w1.heap.size w1 X:=by rw[hX];exact aL _ _
  have kz:X.heap[I]?=some (.cells #[.int .i64 u0,.int .i64 u1,.int .i64 u2,.int .i64 u3,.int .i64 u4] 38 (0,0)):=by rw[hX,bh];exact aX _ _
  rw[<-bh,<-hX]
  have ar:∀b,P b->b<w.heap.size:=fun b hb=>(HH.out.1.up.2 b hb).2
  have ak:Hid (TI P B w X sb q I m nums g c ⟨D,sd,l,r,se⟩ u0 u1 u2 u3 u4):=by
   have g1:=HH.out.2.2.2.2.2
   have g2:=bi.out.size
   have am:=aQ bi.out bZ
   exact ⟨HH.out.2.2.1.trans (am.mono HH.out.2.2.1.size),HH.out.2.1.below am,aD am HH.out.2.2.2.1,aD am HH.out.2.2.2.2.1,kz,g1.1,by omega⟩
  have HT:Hid (TI P B w (X.setCell ⟨I,1,none⟩ (.int .i64 0)) sb q I m nums g c ⟨D,sd,l,r,se⟩ u0 0 u2 u3 u4):=ak.out.set 1 0 rfl ar
  obtain ⟨-,x1,-,-,-⟩:=Ur ak.out.b5
  have xf:=aG ak.out.b5 1
  clear bh bZ kz hX bi s0 s1 s2 s3 s4 av
  go_upto_region 5 with fail
  obtain ⟨O,aw⟩:=gQx (X.setCell ⟨I,1,none⟩ (.int .i64 0))
  rw[<-aw] at HT
  rw[<-aw]
  have al:Hid (∀b,P b->b<w.heap.size):=ar
  clear aw x1 xf ak ar
  obtain ⟨s0,-,s2,-,-⟩:=Ur HT.out.b2
  by_cases c1:D=1
  case' neg=>
   have t1:(D==1)=false:=by simp[c1]
   have Q:Hid (TI P B w O sb q I m nums g c ⟨D,sd,l,r,se⟩ h0 h1 J h3 h4):=by
    have e2:=HW.out.2.2.1
    rw[if_neg c1] at e2
    rw[HW.out.1,HW.out.2.1,e2,HW.out.2.2.2.1,HW.out.2.2.2.2]
    exact HT.out
   clear c1
   obtain ⟨Y,hY⟩:=gQx O
   subst hY
   clear HT s2
  case' pos=>
   have t1:(D==1)=true:=by simp[c1]
   have af:0≤l/\l<nums.length:=by
    have hs:=HI.out.2.1
    unfold eA at hs
    rw[if_neg (show ¬(D<1\/17<D\/D=3) by omega),if_neg (fun x=>x (Nx.sD HI.out.2.1))] at hs
    by_cases a3:D=1/\¬(0≤l/\l<nums.length)
    ·rw[if_pos a3] at hs;omega
    ·exact Classical.byContradiction fun h=>a3 ⟨c1,h⟩
   have j:=HT.out.next (Below.refl _ O).drew
   obtain ⟨ah,bN,ab,ae,ay,bg,bp⟩:=j.sm.nu
   obtain ⟨-,-,-,-,d4,-,-⟩:=j.sm.cells
   rw[ay] at d4
   have ai:=aO3 ah bN ab nums.length ae l af.1 af.2 (fun h=>(bg h).1)
   have cn:=bp l.toNat (by omega)
   rw[show nums.getD l.toNat 0=get nums l by unfold Nx.get;rw[if_pos af.1]] at cn
   have an:get nums l∈nums:=by
    unfold Nx.get
    rw[if_pos af.1,iO,aN4 (by omega)]
    exact aY3 _
   have ad:=I1 (w:=O.drew) (get nums l) (by have:=j.sm.nu;rw[ay] at this;exact this) (by have:=HI.out.2.2.2.1;omega)
   rw[if_pos an] at ad
   obtain ⟨xn,ax⟩:=gQx (get nums l)
   have HE:Hid (J=(nums.idxOf xn:Int)):=by unfold Hid;rw[HW.out.2.2.1,if_pos c1,ax]
   rw[<-ax] at cn ad
   have ap:=aF j.b1 0 (u:=.pointer (some ⟨sb,0,none⟩)) rfl
   obtain ⟨-,-,be,-,-⟩:=Ur j.b2
   obtain ⟨-,-,e2,-,-⟩:=Ur j.b5
   have ef:=aG j.b5 2
   obtain ⟨ln,bo⟩:=gQx nums.length
   rw[<-bo] at ad d4 ai
   have Q:Hid (TI P B w (O.drew.setCell ⟨I,2,none⟩ (.int .i64 J)) sb q I m nums g c ⟨D,sd,l,r,se⟩ h0 h1 J h3 h4):=by
    have:=j.set 2 J rfl al.out
    rw[HW.out.1,HW.out.2.1,HW.out.2.2.2.1,HW.out.2.2.2.2]
    exact this
   rw[<-HE.out] at ad
   have cb:O.drew.cell? ⟨q,0,none⟩=some (.pointer (some ⟨sb,0,none⟩))/\O.drew.cell? ⟨sb,4,none⟩=some (.slice ah ln ae)/\O.drew.cell? ⟨q+1,2,none⟩=some (.int .i64 l)/\O.drew.cell? ⟨bN,ab+l.toNat,none⟩=some (.int .i64 xn):=⟨ap,d4,be,cn⟩
   have ao:(O.drew.setCell ⟨I,2,none⟩ (.int .i64 J)).cell? ⟨q,0,none⟩=some (.pointer (some ⟨sb,0,none⟩))/\(O.drew.setCell ⟨I,2,none⟩ (.int .i64 J)).cell? ⟨sb,4,none⟩=some (.slice ah ln ae)/\(O.drew.setCell ⟨I,2,none⟩ (.int .i64 J)).cell? ⟨q+1,2,none⟩=some (.int .i64 l)/\(O.drew.setCell ⟨I,2,none⟩ (.int .i64 J)).cell? ⟨bN,ab+l.toNat,none⟩=some (.int .i64 xn):=by
    have hq:=HT.out.nq
    have cj:=al.out sb j.sm.pb.1
    have cm:=(j.sm.up.2 sb j.sm.pb.1).1
    have ci:=(bg (by omega)).2
    refine ⟨?_,?_,?_,?_⟩
    ·rw[aY6 (Below.heap_setCell _ _ _ _ (by show q≠I;omega))];exact ap
    ·rw[aY6 (Below.heap_setCell _ _ _ _ (by show sb≠I;omega))];exact d4
    ·rw[aY6 (Below.heap_setCell _ _ _ _ (by show q+1≠I;omega))];exact be
    ·rw[aY6 (Below.heap_setCell _ _ _ _ (by show bN≠I;omega))];exact cn
   have ce:(O.setCell ⟨I,2,none⟩ (.int .i64 J)).drew.cell? ⟨q,0,none⟩=some (.pointer (some ⟨sb,0,none⟩))/\(O.setCell ⟨I,2,none⟩ (.int .i64 J)).drew.cell? ⟨sb,4,none⟩=some (.slice ah ln ae)/\(O.setCell ⟨I,2,none⟩ (.int .i64 J)).drew.cell? ⟨q+1,2,none⟩=some (.int .i64 l)/\(O.setCell ⟨I,2,none⟩ (.int .i64 J)).drew.cell? ⟨bN,ab+l.toNat,none⟩=some (.int .i64 xn):=ao
   have Q:Hid (TI P B w (O.setCell ⟨I,2,none⟩ (.int .i64 J)).drew sb q I m nums g c ⟨D,sd,l,r,se⟩ h0 h1 J h3 h4):=Q
   clear j ay bg bp af an ax bo c1 ap d4 be cn ao
   go_upto_region 6 with fail
   go_region_held3 (fun w'=>w'.cell? ⟨q,0,none⟩=some (.pointer (some ⟨sb,0,none⟩))/\w'.cell? ⟨sb,4,none⟩=some (.slice ah ln ae)/\w'.cell? ⟨q+1,2,none⟩=some (.int .i64 l)/\w'.cell? ⟨bN,ab+l.toNat,none⟩=some (.int .i64 xn)) (first|with_reducible exact ce|with_reducible exact cb|go_keep)
    (first
     | (go_at_call 76;refine ad.mono ?_;rintro e w5 ⟨rfl,cd⟩;obtain rfl:=cd.symm))
   obtain ⟨Y,hY⟩:=gQx ((O.setCell ⟨I,2,none⟩ (.int .i64 J)).drew)
   rw[<-hY] at Q
   rw[<-hY]
   clear hY HT s0 s2
  all_goals
   cases hmk:g.made ⟨h0,h1,J,h3,h4⟩ with
   | some t=>
    have hT:dQ nums g ⟨D,sd,l,r,se⟩=t:=by unfold dQ;rw[if_neg HN.out.2.2,HN.out.2.1,hmk];rfl
    have HG:Hid (Ou P B w Y.drew sb (m+1) nums (eX nums g ⟨D,sd,l,r,se⟩)):=by
     have hm:=HI.out.2.2.2.2.1
     have hb:=(Q.out.next (Below.refl _ Y).drew)
     unfold Hid Ou eX
     rw[if_neg HN.out.2.2,HN.out.2.1,hmk]
     exact ⟨c,hb.sm.more (by omega) (by omega),bM.of_below hb.bel⟩
    have j:=Q.out.next (Below.refl _ Y).drew
    have aa:=j.sm.lookM HN.out.1
    rw[hmk] at aa
    have aa:(Instr.lookup 58 (.map (some c.bm)) (.agg #[.int .i64 h0,.int .i64 h1,.int .i64 J,.int .i64 h3,.int .i64 h4]) true).run prog Y.drew=.ok (.tuple #[.int .i64 t,.bool true]) Y.drew:=aa
    obtain ⟨d0,-,-,-,-,-,-⟩:=j.sm.cells
    have bd:=aF j.b1 0 (u:=.pointer (some ⟨sb,0,none⟩)) rfl
    obtain ⟨e0,e1,e2,e3,e4⟩:=Ur j.b5
    have ba:Hid _:=hT
    clear j hmk hT Q
    go_upto_region 7 with fail
    go_region
    all_goals
     go_wp2_with fail
     go_ret
     exact ⟨by rw[ba.out];rfl,HG⟩
   | none=>
    have hT:dQ nums g ⟨D,sd,l,r,se⟩=g.things:=by unfold dQ;rw[if_neg HN.out.2.2,HN.out.2.1,hmk];rfl
    have cc:Hid (eX nums g ⟨D,sd,l,r,se⟩=⟨fun h=>if Lk h ⟨h0,h1,J,h3,h4⟩=true then some g.things else g.made h,g.copies,g.there,g.things+1,g.code⟩):=by
     unfold Hid eX
     rw[if_neg HN.out.2.2,HN.out.2.1,hmk]
     rfl
    have j:=Q.out.next (Below.refl _ Y).drew
    have aa:=j.sm.lookM HN.out.1
    rw[hmk] at aa
    have aa:(Instr.lookup 58 (.map (some c.bm)) (.agg #[.int .i64 h0,.int .i64 h1,.int .i64 J,.int .i64 h3,.int .i64 h4]) true).run prog Y.drew=.ok (.tuple #[.int .i64 0,.bool false]) Y.drew:=aa
    obtain ⟨d0,-,-,-,-,-,-⟩:=j.sm.cells
    have bd:=aF j.b1 0 (u:=.pointer (some ⟨sb,0,none⟩)) rfl
    obtain ⟨e0,e1,e2,e3,e4⟩:=Ur j.b5
    have ca:=tI j.sm HI.out.2.2.2.2.1
    have ac:Hid (TI P B w Y.drew sb q I m nums g c ⟨D,sd,l,r,se⟩ h0 h1 J h3 h4):=j
    have ba:Hid _:=hT
    clear j hmk hT Q
    go_upto_region 7 with fail
    go_region
    all_goals
     go_upto_region 10 with (go_at_call 42;refine ca.mono ?_;rintro e w6 ⟨rfl,h6⟩;clear ca)
     clear d0 bd e0 e1 e2 e3 e4 aa
     have bb:∀b,¬P b->b<Y.drew.heap.size->w6.heap[b]?=Y.drew.heap[b]?:=fun b hb hl=>h6.out.2.block b hl hb
     have cf:=ac.out.nq
     have b1:w6.heap[q]?=some (.cells #[.pointer (some ⟨sb,0,none⟩)] 53 (0,0)):=by rw[bb q (fun h=>by have:=al.out q h;omega) (aB ac.out.b1)];exact ac.out.b1
     have b5:w6.heap[I]?=some (.cells #[.int .i64 h0,.int .i64 h1,.int .i64 J,.int .i64 h3,.int .i64 h4] 38 (0,0)):=by rw[bb I (fun h=>by have:=al.out I h;omega) (aB ac.out.b5)];exact ac.out.b5
     have bk:=h6.out.1.drew
     obtain ⟨w7,c7,bq,bz,bv⟩:=yY bk (by have:=HI.out.2.2.2.2.1;omega) (by have:=ac.out.sm.few;omega) HN.out.1 g.things
     have bq:(Instr.mapUpdate 58 (.map (some c.bm)) (.agg #[.int .i64 h0,.int .i64 h1,.int .i64 J,.int .i64 h3,.int .i64 h4]) (.int .i64 g.things)).run prog w6.drew=.ok () w7:=bq
     obtain ⟨d0,-,-,-,-,-,-⟩:=bk.cells
     have bd:w6.drew.cell? ⟨q,0,none⟩=some (.pointer (some ⟨sb,0,none⟩)):=aF b1 0 rfl
     obtain ⟨e0,e1,e2,e3,e4⟩:=Ur (show w6.drew.heap[I]?=_ from b5)
     have HG:Hid (Ou P B w w7 sb (m+1) nums (eX nums g ⟨D,sd,l,r,se⟩)):=by
      unfold Hid Ou
      rw[cc.out]
      exact ⟨c7,bz,((bM.of_below (P:=P) ac.out.bel).trans h6.out.2 fun _ _ h=>h).drew.trans bv fun _ _ h=>h⟩
     clear bb b1 b5 bk bz bv h6 ac cf
     go_region
     all_goals
      go_wp2_with fail
      go_ret
      exact ⟨by rw[ba.out];rfl,HG⟩
end
end Sx
end
end Go.Proofs.YthieaobjdpfcoaaGreatDoor
