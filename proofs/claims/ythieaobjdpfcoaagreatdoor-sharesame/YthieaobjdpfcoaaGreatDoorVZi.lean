import Derived.Test.YthieaobjdpfcoaaGreatDoorVZe
import Derived.Lib.SliceRun
import Derived.Deep.RegionLaw
import Derived.Deep.AppendLies
set_option maxRecDepth 100000
set_option maxHeartbeats 4000000
namespace Go.Proofs.YthieaobjdpfcoaaGreatDoor
section
open Go.RowKit Px
namespace Sx
open Nx (Nt Sp asks nI bH get put iH)
open Ew (bM Up rS)
open Fw (wA Si X4 Ur Jq)
def wk (f:Int->Int) (s:Sp):Nat->List Int
 | 0=>[s.code,s.dst,s.a,s.b,s.c]
 | k+1=>(wk f s k).set (2+k) (f ((asks s).getD k 0))
theorem J5 (f:Int->Int) (s:Sp):∀k,(wk f s k).length=5
 | 0=>rfl
 | k+1=>by rw[wk,aR6,J5 f s k]
theorem E3 (s:Sp):(asks s).length≤3:=by unfold asks;split<;>(try split)<;>(try split)<;>simp
theorem mF (s:Sp):asks s=[]\/asks s=[s.a]\/asks s=[s.a,s.b]\/asks s=[s.a,s.b,s.c]:=by
 unfold asks
 split
 ·simp
 ·split
  ·simp
  ·split<;>simp
theorem Pv (f:Int->Int) (s:Sp) {k:Nat}(j:k<(asks s).length):(wk f s k).getD (2+k) 0=(asks s).getD k 0:=by
 rcases mF s with h|h|h|h
 ·rw[h] at j;exact absurd j (Nat.not_lt_zero _)
 ·rw[h] at j
  obtain rfl:k=0:=by simpa using j
  simp[wk,h]
 ·have l:k<2:=by simpa [h] using j
  obtain rfl|rfl:k=0\/k=1:=by omega
  all_goals simp[wk,h]
 ·have l:k<3:=by simpa [h] using j
  obtain rfl|rfl|rfl:k=0\/k=1\/k=2:=by omega
  all_goals simp[wk,h]
theorem Ak (f:Int->Int) (s:Sp):wk f s (asks s).length=[(bL f s).code,(bL f s).dst,(bL f s).a,(bL f s).b,(bL f s).c]:=by
 rcases mF s with h|h|h|h<;>simp[wk,bL,h]
theorem Gw (q k:Nat):(⟨q,0,none⟩:Addr).add k=⟨q,k,none⟩:=by unfold Addr.add;split<;>simp_all
theorem ixP (q n c k:Nat) (h:k<n) (w:World):(Instr.indexAt 112 (.slice (some ⟨q,0,none⟩) n c) (.int .i64 (k:Int))).run Tryz.prog w=.ok (.pointer (some ⟨q,k,none⟩)) w:=by
 rw[aY6 _ _ _ _ _ _ _ (by kernel_rfl),if_pos ⟨by omega,by omega⟩]
 have e:(sizeOf (Tryz.prog.elem 112)).run Tryz.prog w=.ok 1 w:=by kernel_rfl
 rw[e]
 have:=Gw q k
 simp[Result.andThen,this]
theorem yI (h:Array Value) (W:World) (g:Nat) (j:Array Value) (hsz:j.size=5) (k:h[4]?.getD undef=.pointer (some ⟨g,0,none⟩)) (l:W.heap[g]?=some (.cells j 38 (0,0))) :
    (results Tryz.f45 h).run Tryz.prog W=.ok (.agg j) W:=by
 simp[results,Tryz.results45,k,asAddr,Jq hsz l]
structure WI (w3 wr:World) (q:Nat) (l:List Int):Prop where
 box:wr.heap[q]?=some (.cells (l.map (Value.int .i64)).toArray 38 (0,0))
 fr:bM (fun b=>b=q) w3 wr
theorem WI.cell {w3 wr:World}{q:Nat}{l:List Int}(h:WI w3 wr q l) {k:Nat}(hk:k<l.length):wr.cell? ⟨q,k,none⟩=some (.int .i64 (l.getD k 0)):=
 aF h.box k (by simp[List.getD_eq_getElem?_getD,hk])
theorem WI.set {w3 wr w4:World}{q:Nat}{l:List Int}(h:WI w3 wr q l) (hb:Below wr.heap.size wr w4) (k:Nat) (x:Int):WI w3 (w4.setCell ⟨q,k,none⟩ (.int .i64 x)) q (l.set k x):=by
 refine ⟨?_,((h.fr.trans (bM.of_below (P:=fun _=>False) hb) fun _ _ h=>h.elim).setCell (p:=⟨q,k,none⟩) (.inl rfl) _)⟩
 rw[List.map_set]
 exact cH (aD hb h.box) k _
theorem F2 {s:Sp}{F q0:Nat}(hF:F=75\/F=46) {f:Int->Int}{w:World}(hc:∀W,Below w.heap.size w W->∀p∈asks s,Calls Tryz.prog F #[.int .i64 p,.pointer (some ⟨q0,0,none⟩)] W fun e W'=>e=.returned (.int .i64 (f p))/\Hid (Below W.heap.size W W')) :
    Calls Tryz.prog 45 #[wA s,.func (.func F) #[] #[.pointer (some ⟨q0,0,none⟩)]] w fun e w'=>e=.returned (wA (bL f s))/\Hid (Below w.heap.size w w'):=by
 obtain ⟨U,hU⟩:∃U,U=w.alloc (.cells #[.int .i64 s.code,.int .i64 s.dst,.int .i64 s.a,.int .i64 s.b,.int .i64 s.c] 38):=⟨_,rfl⟩
 obtain ⟨u,l⟩:∃u,u=U.alloc (.cells #[.int .i64 0,.int .i64 0,.int .i64 0,.int .i64 0,.int .i64 0] 38):=⟨_,rfl⟩
 obtain ⟨q,Z⟩:∃q,q=w.heap.size:=⟨_,rfl⟩
 have sU:U.heap.size=q+1:=by rw[hU,Z];simp
 have O:u.heap.size=q+1+1:=by rw[l];simp[sU]
 have y:=O
 obtain ⟨j,I⟩:∃j,j=u.alloc (.cells #[.pointer (some ⟨q,2,none⟩),.pointer (some ⟨q,3,none⟩),.pointer (some ⟨q,4,none⟩)] 113):=⟨_,rfl⟩
 have b1:Below w.heap.size w U:=by rw[hU];exact aL _ _
 have b2:Below U.heap.size U u:=by rw[l];exact aL _ _
 have b3:Below u.heap.size u j:=by rw[I];exact aL _ _
 have k1:j.heap[q]?=some (.cells #[.int .i64 s.code,.int .i64 s.dst,.int .i64 s.a,.int .i64 s.b,.int .i64 s.c] 38 (0,0)):=aD b3 (aD b2 (by rw[hU,Z];exact aX w _))
 have k2:j.heap[q+1]?=some (.cells #[.int .i64 0,.int .i64 0,.int .i64 0,.int .i64 0,.int .i64 0] 38 (0,0)):=aD b3 (by rw[<-sU,l];exact aX U _)
 have k3:j.heap[q+1+1]?=some (.cells #[.pointer (some ⟨q,2,none⟩),.pointer (some ⟨q,3,none⟩),.pointer (some ⟨q,4,none⟩)] 113 (0,0)):=by rw[<-O,I];exact aX u _
 obtain ⟨a0,a1,a2,a3,a4⟩:=Ur k1
 have Q:Hid (Below w.heap.size w j/\j.heap[q]?=some (.cells ((wk f s 0).map (Value.int .i64)).toArray 38 (0,0))/\j.heap[q+1]?=some (.cells #[.int .i64 0,.int .i64 0,.int .i64 0,.int .i64 0,.int .i64 0] 38 (0,0))/\j.heap[q+1+1]?=some (.cells #[.pointer (some ⟨q,2,none⟩),.pointer (some ⟨q,3,none⟩),.pointer (some ⟨q,4,none⟩)] 113 (0,0))/\w.heap.size=q):=⟨aQ b1 (aQ b2 b3),k1,k2,k3,Z.symm⟩
 have r:Calls Tryz.prog 11 #[.agg #[.int .i64 s.code,.int .i64 s.dst,.int .i64 s.a,.int .i64 s.b,.int .i64 s.c]] j fun e w'=>∃ad cap,e=.returned (.slice ad (asks s).length cap)/\Hid (Below j.heap.size j w'):=
  (nI s.code s.dst s.a s.b s.c j).mono fun e w' ⟨v,he,⟨ad,b,off,cap,hv,h1,h2⟩,hb⟩=>⟨ad,cap,by rw[he,hv],hb⟩
 obtain ⟨n,hn⟩:∃n,n=(asks s).length:=⟨_,rfl⟩
 have ac:n≤3:=by rw[hn];exact E3 s
 have HN:Hid (n=(asks s).length):=hn
 have HC:Hid (∀W,Below w.heap.size w W->∀p∈asks s,Calls Tryz.prog F #[.int .i64 p,.pointer (some ⟨q0,0,none⟩)] W fun e W'=>e=.returned (.int .i64 (f p))/\Hid (Below W.heap.size W W')):=hc
 rw[<-hn] at r
 rw[hU] at l
 clear hU sU O b1 b2 b3 k1 k2 k3 hc hn
 subst I
 have ab:=fun k (hk:k<n) (W:World)=>ixP (q+1+1) n 3 k hk W
 have aa:Hid (u.heap.size=q+1+1):=y
 clear y
 have hsz:=aa.out
 rcases hF with rfl|rfl
 all_goals
  go_enter Tryz.func45,Tryz.ntmps45
  go_upto_region 1 with fail
  rw[<-l,<-Z]
  clear l Z
  go_wp2_with (go_at_call 11;refine r.mono ?_;rintro e w1 ⟨ad,cap,rfl,HX⟩;clear r)
  have h:Hid (Below w.heap.size w w1/\WI w1 w1 q (wk f s 0)/\w1.heap[q+1]?=some (.cells #[.int .i64 0,.int .i64 0,.int .i64 0,.int .i64 0,.int .i64 0] 38 (0,0))/\w1.heap[q+1+1]?=some (.cells #[.pointer (some ⟨q,2,none⟩),.pointer (some ⟨q,3,none⟩),.pointer (some ⟨q,4,none⟩)] 113 (0,0))/\w.heap.size=q):=
   ⟨aQ Q.out.1 HX.out,⟨aD HX.out Q.out.2.1,bM.refl _ _⟩,aD HX.out Q.out.2.2.1,aD HX.out Q.out.2.2.2.1,Q.out.2.2.2.2⟩
  clear a0 a1 a2 a3 a4 Q HX aa hsz
  go_loopw [16] (fun i wr=>∃k:Nat,k≤n/\i=.int .i64 k/\Hid (WI w1 wr q (wk f s k))) (fun i _=>n-(intOf i).toNat)
  case atStart=>exact ⟨0,aP4 _,rfl,h.out.2.1⟩
  case round=>
   obtain ⟨k,hk,rfl,HR⟩:=hrel
   have HW:Hid (Below w.heap.size w wr):=h.out.1.trans (HR.out.fr.below (B:=w.heap.size) h.out.1.size (fun b hb=>by rw[hb];have:=h.out.2.2.2.2;omega))
   by_cases hlt:k<n
   ·have hi:=ab k hlt
    have D:k<(asks s).length:=by rw[<-HN.out];exact hlt
    obtain ⟨x,hx⟩:∃x,x=(asks s).getD k 0:=⟨_,rfl⟩
    have Y:Hid (x=(asks s).getD k 0):=hx
    have cx:wr.cell? ⟨q,2+k,none⟩=some (.int .i64 x):=by rw[HR.out.cell (by rw[J5];omega),Pv f s D,hx]
    have J:=HC.out wr HW.out x (by rw[hx,iO,aN3 D];exact aY1 _)
    have cp:wr.cell? ⟨q+1+1,k,none⟩=some (.pointer (some ⟨q,2+k,none⟩)):=by
     have hb:wr.heap[q+1+1]?=_:=HR.out.fr.heap h.out.2.2.2.1 (by omega)
     have:k=0\/k=1\/k=2:=by omega
     rcases this with rfl|rfl|rfl
     ·exact aF hb 0 rfl
     ·exact aF hb 1 rfl
     ·exact aF hb 2 rfl
    obtain ⟨d,hd⟩:∃d,d=2+k:=⟨_,rfl⟩
    rw[<-hd] at cx cp
    have HD:Hid (d=2+k):=hd
    clear hx D hd
    go_wp2_with ((first|go_at_call 75|go_at_call 46);refine J.mono ?_;rintro e w4 ⟨rfl,h4⟩;have c4:=aN h4.out cx;have f4:=aG (aD h4.out HR.out.box) d)
    go_roundw
    case rel=>exact ⟨k+1,by omega,by go_num,by
     have:=HR.out.set h4.out (2+k) (f x)
     rw[Y.out] at this
     rw[HD.out,Y.out]
     exact this⟩
    case measure=>simp[intOf];omega
   ·obtain rfl:k=n:=by omega
    have hb:=HR.out.box
    rw[HN.out,Ak] at hb
    obtain ⟨c0,c1,c2,c3,c4⟩:=Ur hb
    have kz:wr.heap[q+1]?=_:=HR.out.fr.heap h.out.2.2.1 (by omega)
    obtain ⟨z0,z1,z2,z3,z4⟩:=Ur kz
    have rf:=fun o=>aG kz o
    go_wp2_with fail
    obtain ⟨X,hX⟩:∃X,X=((((wr.setCell ⟨q+1,0,none⟩ (.int .i64 (bL f s).code)).setCell ⟨q+1,1,none⟩ (.int .i64 (bL f s).dst)).setCell ⟨q+1,2,none⟩ (.int .i64 (bL f s).a)).setCell ⟨q+1,3,none⟩ (.int .i64 (bL f s).b)).setCell ⟨q+1,4,none⟩ (.int .i64 (bL f s).c):=⟨_,rfl⟩
    rw[<-hX]
    obtain ⟨y0,_,y2,_⟩:=X4 kz hX
    clear hX
    refine aY7 (yI _ X (q+1) _ rfl rfl y0) rfl ⟨rfl,?_⟩
    exact y2 _ _ HW.out (by have:=h.out.2.2.2.2;omega)
theorem zG {w:World}{q:Nat}{p:Int}(h:w.cell? ⟨q,0,none⟩=some (.int .i64 p)) (y:Int) :
    Calls Tryz.prog 79 #[.int .i64 y,.pointer (some ⟨q,0,none⟩)] w fun e w'=>e=.returned (.bool (y==p))/\w'=w:=by
 go_enter Tryz.func79,Tryz.ntmps79
 go_wp2
 go_ret
 exact ⟨rfl,rfl⟩
abbrev pfV (q:Nat):Value:=.func (.func 79) #[] #[.pointer (some ⟨q,0,none⟩)]
theorem s8 {A:Nat->Prop}{w:World}{v:Value}{zs:List Int}{q:Nat}{p:Int}(hq:w.cell? ⟨q,0,none⟩=some (.int .i64 p)) (h:bH A w v zs) (hl:zs.length≤100000) (hm:p∈zs) :
    Calls Tryz.prog 122 #[v,pfV q] w fun e w'=>e=.returned (.int .i64 (zs.idxOf p:Nat))/\w'=w:=by
 obtain ⟨ad,b,D,cap,rfl,h1,h2⟩:=h
 have HP:Hid ((0<zs.length->ad=some ⟨b,D,none⟩)/\∀k,k<zs.length->w.cell? ⟨b,D+k,none⟩=some (.int .i64 (zs.getD k 0))):=⟨fun h=>(h1 h).1,h2⟩
 obtain ⟨l,u⟩:∃l,l=zs.length:=⟨_,rfl⟩
 have HL:Hid (l=zs.length):=u
 obtain ⟨r,U⟩:∃r:Nat,r=zs.idxOf p:=⟨_,rfl⟩
 have HR:Hid (zs[r]?=some p/\r<zs.length/\∀j,j<r->zs.getD j 0≠p):=by
  have X:=List.idxOf_lt_length_of_mem hm
  refine ⟨by rw[U,aN3 X,List.getElem_idxOf],by rw[U];exact X,fun j Y e=>?_⟩
  rw[U] at Y
  have:=List.not_of_lt_findIdx (p:=fun z=>z==p) (xs:=zs) Y
  rw[iO,aN3 (Nat.lt_trans Y X)] at e
  have e:zs[j]'(Nat.lt_trans Y X)=p:=e
  rw[e] at this
  simp at this
 have aa:Hid (∀y,Calls Tryz.prog 79 #[.int .i64 y,.pointer (some ⟨q,0,none⟩)] w fun e w'=>e=.returned (.bool (y==p))/\w'=w):=fun y=>zG hq y
 rw[<-U,<-u]
 have ae:l≤100000:=by omega
 clear h1 h2 hl u U hm hq
 go_enter Tryz.func122,Tryz.ntmps122
 go_wp2
 go_loopw [8] (fun i wr=>∃k:Nat,k≤r/\i=.int .i64 k/\Hid (wr=w)) (fun i _=>l-(intOf i).toNat)
 case atStart=>exact ⟨0,aP4 _,rfl,rfl⟩
 case round=>
  obtain ⟨k,hk,rfl,HW⟩:=hrel
  obtain rfl:=HW.out.symm
  have af:r<l:=by rw[HL.out];exact HR.out.2.1
  have I:k<l:=by omega
  have ac:=Nx.Q7 ad b D l cap k I (fun h=>HP.out.1 (by rw[<-HL.out];exact h))
  obtain ⟨y,Q⟩:∃y,y=zs.getD k 0:=⟨_,rfl⟩
  have s:k<zs.length:=by rw[<-HL.out];exact I
  have cy:=HP.out.2 k s
  rw[<-Q] at cy
  have n:=aa.out y
  by_cases hkr:k=r
  ·have J:y=p:=by
    have:=HR.out.1
    rw[<-hkr,aN3 s] at this
    rw[Q,iO,aN3 s]
    exact Option.some.inj this
   have O:(y==p)=true:=by simp[J]
   rw[O] at n
   have HE:Hid (k=r):=hkr
   clear Q J s hkr O
   go_wp2_with (go_at_call 79;refine n.mono ?_;rintro e w4 ⟨rfl,Z⟩;obtain rfl:=Z.symm)
   go_ret
   exact ⟨by rw[<-HE.out];rfl,rfl⟩
  ·have O:(y==p)=false:=by
    have:=HR.out.2.2 k (by omega)
    rw[<-Q] at this
    simpa using this
   rw[O] at n
   have ab:k+1≤r:=by omega
   clear Q s hkr O
   go_wp2_with (go_at_call 79;refine n.mono ?_;rintro e w4 ⟨rfl,Z⟩;obtain rfl:=Z.symm)
   go_roundw
   case rel=>exact ⟨k+1,ab,by go_num,by first|rfl|trivial⟩
   case measure=>simp[intOf];omega
abbrev lH (p:Int) (l:List Int):List Int:=l.filter (fun q=>!(q==p))
theorem Pg {w:World}{b cap n:Nat}{l:List Int}(h:iH 3 0 w (.slice (some ⟨b,0,none⟩) n cap) l) {i:Nat}(s:i≤l.length):iH 3 0 w (.slice (some ⟨b,0,none⟩) i cap) (l.take i):=by
 obtain ⟨O,h|⟨g,r,j,k,J,D,Q,u,I,y⟩⟩:=h
 ·exact absurd h.1 (by simp)
 ·simp only[Value.slice.injEq,Option.some.injEq,Addr.mk.injEq,and_true] at k
  obtain ⟨rfl,rfl,rfl⟩:=k
  refine ⟨by simp,.inr ⟨b,cap,j,by simp[Nat.min_eq_left s],J,D,by simp;omega,u,I,?_⟩⟩
  rw[List.map_take,<-y,List.take_take]
  simp[Nat.min_eq_left s]
theorem yQ {b cap:Nat}{l:List Int}:∀(vs:List Value) (o:Nat) (w:World),iH 3 0 w (.slice (some ⟨b,0,none⟩) l.length cap) l->l.length≤o->iH 3 0 (w.setCells b o vs) (.slice (some ⟨b,0,none⟩) l.length cap) l/\bM (fun c=>c=b) w (w.setCells b o vs)
 | [],_,w,h,_=>⟨h,bM.refl _ _⟩
 | v::vs,o,w,h,ho=>by
  have h1:=(World.ownsRow.stored h o v).1
  rw[List.set_eq_of_length_le (by simpa using ho)] at h1
  obtain ⟨h2,h3⟩:=yQ vs (o+1) (w.setCell ⟨b,o,none⟩ v) h1 (by omega)
  exact ⟨h2,((bM.refl (fun c=>c=b) w).setCell (p:=⟨b,o,none⟩) (.inl rfl) v).trans h3 fun _ _ h=>h⟩
theorem Zg (w:World):(zeroValue 3).run Tryz.prog w=.ok (.int .i64 0) w:=by kernel_rfl
structure DI (w wr:World) (b cap:Nat) (p:Int) (l L:List Int) (i j:Nat):Prop where
 row:iH 3 0 wr (.slice (some ⟨b,0,none⟩) L.length cap) L
 len:L.length=l.length
 hd:L.take i=lH p (l.take j)
 tl:∀k,j≤k->L.getD k 0=l.getD k 0
 fr:bM (fun c=>c=b) w wr
theorem wI {L:List Int}{i:Nat}(h:i<L.length) (x:Int):(L.set i x).take (i+1)=L.take i++[x]:=by
 rw[List.take_add_one,List.getElem?_set_self h,List.take_set_of_le (aN4 _)]
 rfl
theorem DI.keep {w wr:World}{b cap:Nat}{p:Int}{l L:List Int}{i j:Nat}(h:DI w wr b cap p l L i j) (r:j<l.length) (y:i<j) (n:¬l.getD j 0=p):DI w (wr.setCell ⟨b,i,none⟩ (.int .i64 (l.getD j 0))) b cap p l (L.set i (l.getD j 0)) (i+1) (j+1):=by
 have s:=h.row
 have u:=(World.ownsRow.stored s i (.int .i64 (l.getD j 0))).1
 refine ⟨?_,by rw[aR6];exact h.len,?_,fun k D=>?_,h.fr.setCell (p:=⟨b,i,none⟩) (.inl rfl) _⟩
 ·show World.ownsRow _ 0 _ 1 (.slice (some ⟨b,0,none⟩) (L.set i _).length cap) (L.set i _).length _
  rw[aR6,List.map_set]
  exact u
 ·rw[wI (by rw[h.len];omega),h.hd,List.take_add_one,aN3 r]
  have e:l.getD j 0=l[j]:=by rw[iO,aN3 r];rfl
  rw[e] at n
  unfold lH
  rw[List.filter_append,e]
  congr 1
  simp[n]
 ·rw[iO,aX4 (by omega),<-iO]
  exact h.tl k (by omega)
theorem DI.drop {w wr:World}{b cap:Nat}{p:Int}{l L:List Int}{i j:Nat}(h:DI w wr b cap p l L i j) (r:j<l.length) (n:l.getD j 0=p):DI w wr b cap p l L i (j+1):=by
 refine ⟨h.row,h.len,?_,fun k s=>h.tl k (by omega),h.fr⟩
 rw[h.hd,List.take_add_one,aN3 r]
 have e:l.getD j 0=l[j]:=by rw[iO,aN3 r];rfl
 rw[e] at n
 simp[lH,List.filter_append,n]
theorem Ft {p:Int}:∀{l:List Int}{r:Nat},(∀j,j<r->l.getD j 0≠p)->l[r]?=some p->lH p (l.take (r+1))=l.take r:=by
 intro l r h s
 rw[List.take_add_one,s,lH,List.filter_append]
 have:(l.take r).filter (fun q=>!(q==p))=l.take r:=by
  rw[List.filter_eq_self]
  intro x hx
  obtain ⟨j,n,rfl⟩:=List.getElem_of_mem hx
  rw[List.length_take] at n
  have k:=h j (by omega)
  rw[iO,aN3 (by omega)] at k
  rw[List.getElem_take]
  simpa using k
 rw[this]
 simp
theorem Lp {w:World}{b cap:Nat}{l:List Int}{q:Nat}{p:Int}(hq:w.cell? ⟨q,0,none⟩=some (.int .i64 p)) (aa:q≠b) (h:iH 3 0 w (.slice (some ⟨b,0,none⟩) l.length cap) l) (hl:l.length≤100000) (hm:p∈l) :
    Calls Tryz.prog 78 #[.slice (some ⟨b,0,none⟩) l.length cap,pfV q] w fun e w'=>e=.returned (.slice (some ⟨b,0,none⟩) (lH p l).length cap)/\Hid (iH 3 0 w' (.slice (some ⟨b,0,none⟩) (lH p l).length cap) (lH p l)/\bM (fun c=>c=b) w w'):=by
 have I:=s8 (A:=fun c=>0≤c/\c<w.heap.size) hq h.ints hl hm
 have h3:=List.idxOf_lt_length_of_mem hm
 obtain ⟨r,hr⟩:∃r,r=l.idxOf p:=⟨_,rfl⟩
 rw[<-hr] at I h3
 have Y:l[r]?=some p:=by rw[hr,aN3 (by rw[<-hr];exact h3),List.getElem_idxOf]
 have X:∀j,j<r->l.getD j 0≠p:=fun j hj e=>by
  rw[hr] at hj
  have:=List.not_of_lt_findIdx (p:=fun z=>z==p) (xs:=l) hj
  rw[iO,aN3 (by omega)] at e
  have e:l[j]'(by omega)=p:=e
  rw[e] at this
  simp at this
 have HS:Hid (DI w w b cap p l l r (r+1)):=⟨h,rfl,(Ft X Y).symm,fun _ _=>rfl,bM.refl _ _⟩
 obtain ⟨n,hn⟩:∃n,n=l.length:=⟨_,rfl⟩
 have O:Hid (n=l.length):=hn
 rw[<-hn] at I hl h3 ⊢
 have HB:Hid (q≠b/\w.cell? ⟨q,0,none⟩=some (.int .i64 p)):=⟨aa,hq⟩
 have ah:IntKind.i64.wrap ((r:Int)+1)=(r:Int)+1:=by rw[IntKind.wrap_i64];omega
 have t0:((r:Int) == -1)=false:=by simp
 clear h hm hr Y X hn hq aa
 go_enter Tryz.func78,Tryz.ntmps78
 go_wp2_with (go_at_call 122;refine I.mono ?_;rintro e w1 ⟨rfl,h1⟩;obtain rfl:=h1.symm;clear I)
 go_loopw [5,6] (fun i j wr=>∃(a c:Nat) (L:List Int),a<c/\c≤n/\i=.int .i64 a/\j=.int .i64 c/\Hid (DI w wr b cap p l L a c)) (fun i j _=>n-(intOf j).toNat)
 case atStart=>exact ⟨r,r+1,l,by omega,by omega,rfl,by go_num,HS.out⟩
 case round=>
  obtain ⟨a,c,L,Z,ae,rfl,rfl,s⟩:=hrel
  by_cases hlt:c<n
  ·have J:c<l.length:=by rw[<-O.out];exact hlt
   have ab:=Nx.Q7 (some ⟨b,0,none⟩) b 0 n cap c hlt (fun _=>rfl)
   have ac:=Nx.Q7 (some ⟨b,0,none⟩) b 0 n cap a (by omega) (fun _=>rfl)
   rw[aX1] at ab ac
   obtain ⟨y,hy⟩:∃y,y=l.getD c 0:=⟨_,rfl⟩
   have k:=s.out.row
   have cy:wr.cell? ⟨b,c,none⟩=some (.int .i64 y):=by
    rw[hy,<-s.out.tl c (aN4 _),World.ownsRow.cellAt k c (by rw[s.out.len];omega),aW4,aN3 (by rw[s.out.len];exact J),iO,aN3 (by rw[s.out.len];exact J)]
    rfl
   have ca:wr.cell? ⟨b,a,none⟩=some (.int .i64 (L.getD a 0)):=by
    rw[World.ownsRow.cellAt k a (by rw[s.out.len];omega),aW4,aN3 (by rw[s.out.len];omega),iO,aN3 (by rw[s.out.len];omega)]
    rfl
   have fa:=World.ownsRow.frozenAt k a
   have u:=zG (w:=wr) (q:=q) (p:=p) (s.out.fr.cell HB.out.2 HB.out.1) y
   have HY:Hid (y=l.getD c 0):=hy
   by_cases hyp:y=p
   ·have t1:(y==p)=true:=by simp[hyp]
    rw[t1] at u
    have HE:Hid (l.getD c 0=p):=by rw[<-HY.out];exact hyp
    clear hy hyp t1 k J
    go_wp2_with (go_at_call 79;refine u.mono ?_;rintro e w4 ⟨rfl,h4⟩;obtain rfl:=h4.symm)
    go_roundw
    case rel=>exact ⟨a,c+1,L,by omega,by omega,rfl,by go_num,s.out.drop (by rw[<-O.out];exact hlt) HE.out⟩
    case measure=>simp[intOf];omega
   ·have t1:(y==p)=false:=by simp[hyp]
    rw[t1] at u
    have HE:Hid (¬l.getD c 0=p):=by rw[<-HY.out];exact hyp
    clear hy hyp t1 k J
    go_wp2_with (go_at_call 79;refine u.mono ?_;rintro e w4 ⟨rfl,h4⟩;obtain rfl:=h4.symm)
    go_roundw
    case rel=>exact ⟨a+1,c+1,L.set a (l.getD c 0),by omega,by omega,by go_num,by go_num,by
     have:=s.out.keep (by rw[<-O.out];exact hlt) Z HE.out
     rw[HY.out]
     exact this⟩
    case measure=>simp[intOf];omega
  ·obtain rfl:c=n:=by omega
   have k:=s.out.row
   have ad:a<l.length:=by rw[<-O.out];exact Z
   have D:L.take a=lH p l:=by
    have:=s.out.hd
    rw[O.out,aX5] at this
    exact this
   have U:a=(lH p l).length:=by rw[<-D,List.length_take,s.out.len];omega
   have ai:=Lib.run_clear_slice (P:=Tryz.prog) wr 23 3 0 (.int .i64 0) Tryz.underlying23 Zg rfl rfl b a (c-a) (cap-a) (by omega) (fun j hj=>by
    rw[World.ownsRow.cellAt k (a+j) (by rw[s.out.len];have:=O.out;omega),aW4,aN3 (by rw[s.out.len,<-O.out];omega)]
    rfl) (fun j _=>World.ownsRow.frozenAt k (a+j))
   have Q:=Pg k (i:=a) (by rw[s.out.len];omega)
   rw[D] at Q
   obtain ⟨z1,z2⟩:=yQ (l:=lH p l) (cap:=cap) (List.replicate (c-a) (.int .i64 0)) a wr (by rw[<-U];exact Q) (by omega)
   have HZ:Hid (iH 3 0 (wr.setCells b a (List.replicate (c-a) (.int .i64 0))) (.slice (some ⟨b,0,none⟩) (lH p l).length cap) (lH p l)/\bM (fun c=>c=b) w (wr.setCells b a (List.replicate (c-a) (.int .i64 0)))/\a=(lH p l).length):=⟨z1,s.out.fr.trans z2 fun _ _ h=>h,U⟩
   have af:c≤cap:=by
    obtain ⟨_,h|⟨g,cp,ag,he,_,_,h5,_⟩⟩:=id k
    ·exact absurd h.1 (by simp)
    ·simp only[Value.slice.injEq] at he
     have e1:=s.out.len
     have e2:=O.out
     omega
   clear k D U Q z1 z2 ad
   go_wp2_with fail
   go_ret
   exact ⟨by rw[<-HZ.out.2.2];rfl,HZ.out.1,HZ.out.2.1⟩
theorem aE1 {p q:Int}(h:p≠q):Lit.int .i64 p≠Lit.int .i64 q:=by intro e;injection e with _ e;exact h e
section
variable {P:Nat->Prop}{B:Nat}{w:World}{sb m Pn:Nat}{nums:List Int}{g:Sg}{c:Sv}
theorem SM.drew (h:SM P B w sb m nums g c):SM P B w.drew sb m nums g c:=h.below (Below.refl _ w).drew
theorem Eh {w1 w2:World}{old p:Int}{b cap:Nat}(h:SM P B w1 sb m nums g c) (hm:m≤100000) (I:jF old) (n:g.copies old≠[]) (hv:c.fv old=.slice (some ⟨b,0,none⟩) (g.copies old).length cap)
    (O:iH 3 0 w2 (.slice (some ⟨b,0,none⟩) (lH p (g.copies old)).length cap) (lH p (g.copies old))) (y:bM (fun d=>d=b) w1 w2) (J:lH p (g.copies old)≠[]) :
    ∃w3 n' ,(Instr.mapUpdate 59 (.map (some c.bc)) (.int .i64 old) (.slice (some ⟨b,0,none⟩) (lH p (g.copies old)).length cap)).run Tryz.prog w2=.ok () w3/\
     SM P B w3 sb m nums { g with copies:=kZ g.copies old p } { c with nc:=n',fv:=fun u=>if u=old then .slice (some ⟨b,0,none⟩) (lH p (g.copies old)).length cap else c.fv u }/\bM P w1 w3:=by
 obtain ⟨f,X,D⟩:=h.cp
 have j:(cvS g c old).ownBlock=some b:=by unfold cvS;rw[if_neg n,hv];rfl
 have Y:w2.heap[c.bc]?=w1.heap[c.bc]?:=y.block _ (h.up.2 _ h.pb.2.2).2 fun e=>(h.rowP old b j).2.2.2.1 e.symm
 obtain ⟨w3,Q,s,r⟩:=(X.keep Y).put Si Tryz.underlying59 (by have:=h.few;unfold maxLen;omega) (Maps.keyOf_int_mk Tryz.underlying3 I.wf) (.slice (some ⟨b,0,none⟩) (lH p (g.copies old)).length cap)
 have k:(f (.int .i64 old)).isSome=true:=by rw[D old,if_neg n];rfl
 obtain ⟨U,Z⟩:=h.left (t:=old) (l:=lH p (g.copies old)) (f:=Gm.put f (.int .i64 old) (.slice (some ⟨b,0,none⟩) (lH p (g.copies old)).length cap)) (y.wide fun d _ e=>by rw[j,e]) (fun _=>⟨O,by rw[j];rfl⟩) r s (fun u=>by
  by_cases e:u=old
  ·subst e
   rw[Gm.pQ _ (by trivial),if_pos rfl,if_neg J]
  ·rw[Gm.kT _ _ (aE1 e),if_neg e];exact D u) (by rw[if_pos k];exact h.few.2.1) (aO4 (List.length_filter_le _ _) (h.lw old))
 exact ⟨w3,_,Q,U,Z⟩
theorem Ex {w1 w2:World}{old p:Int}{b cap:Nat}(h:SM P B w1 sb m nums g c) (J:jF old) (k:g.copies old≠[]) (Z:c.fv old=.slice (some ⟨b,0,none⟩) (g.copies old).length cap)
    (D:bM (fun d=>d=b) w1 w2) (n:lH p (g.copies old)=[]) (I:TypeId) :
    ∃w3 n',(Builtin.delete_ #[59,3] I #[.map (some c.bc),.int .i64 old]).run Tryz.prog w2=.ok (.tuple #[]) w3/\
     SM P B w3 sb m nums { g with copies:=kZ g.copies old p } { c with nc:=n',fv:=fun u=>if u=old then .slice none 0 0 else c.fv u }/\bM P w1 w3:=by
 obtain ⟨f,U,h4⟩:=h.cp
 have j:(cvS g c old).ownBlock=some b:=by unfold cvS;rw[if_neg k,Z];rfl
 have X:w2.heap[c.bc]?=w1.heap[c.bc]?:=D.block _ (h.up.2 _ h.pb.2.2).2 fun e=>(h.rowP old b j).2.2.2.1 e.symm
 obtain ⟨w3,n',O,s,y,r⟩:=(U.keep X).del Si Tryz.underlying59 (Maps.keyOf_int_mk Tryz.underlying3 J.wf) I
 obtain ⟨Q,Y⟩:=h.left (t:=old) (l:=lH p (g.copies old)) (v:=.slice none 0 0) (f:=Gm.del f (.int .i64 old)) (D.wide fun d _ e=>by rw[j,e]) (fun x=>absurd n x) r s (fun u=>by
  by_cases e:u=old
  ·subst e
   rw[Gm.I3 _ (by trivial),if_pos rfl,if_pos n]
  ·rw[Gm.zP _ (aE1 e),if_neg e];exact h4 u) (aO4 y h.few.2.1) (by rw[n];exact aP4 _)
 exact ⟨w3,_,O,Q,Y⟩
theorem Eg {t p:Int}(h:SM P B w sb m nums g c) (hm:m<100000) (ht:jF t) :
    ∃v5 w5 w6 c',(Builtin.append_ #[23,23] 23 #[cvS g c t,.slice (some ⟨w.heap.size,0,none⟩) 1 1]).run Tryz.prog (w.alloc (.cells #[.int .i64 p] 3))=.ok v5 w5/\
     (Instr.mapUpdate 59 (.map (some c.bc)) (.int .i64 t) v5).run Tryz.prog w5=.ok () w6/\(∃a n k,v5=.slice (some a) n k)/\
     SM (Up P w w6) B w6 sb (m+1) nums { g with copies:=fun u=>if u=t then g.copies t++[p] else g.copies u } c'/\bM P w w6/\(∀d,d<w.heap.size->¬P d->w5.heap[d]?=w.heap[d]?)/\w5.heap[sb]?=w.heap[sb]?:=by
 obtain ⟨f,Z,h4⟩:=h.cp
 obtain ⟨r,cap,w5,X,l,j,I,U⟩:=Nx.aG9 (A:=fun _=>True) 23 3 Tryz.underlying23 Tryz.ckInfoInt 0 (w.alloc (.cells #[.int .i64 p] 3)) (cvS g c t) (.slice (some ⟨w.heap.size,0,none⟩) 1 1) (g.copies t) [p] ((h.rowC t).alloc _) ⟨_,w.heap.size,0,1,rfl,fun _=>⟨rfl,trivial⟩,fun k J=>by
  obtain rfl:k=0:=by simpa using J
  exact aF (aX _ _) 0 rfl⟩ (aP4 _) (.inr (by simp)) (by have:=h.lw t;simp;omega)
 have J:w5.heap[c.bc]?=w.heap[c.bc]?:=by
  have y:=(h.up.2 _ h.pb.2.2).2
  rw[j.block _ (by simp;omega) fun e=>(h.rowP t _ e.symm).2.2.2.1 rfl,Below.heap_alloc _ _ _ y]
 obtain ⟨w6,O,s,D⟩:=(Z.keep J).put Si Tryz.underlying59 (by have:=h.few;unfold maxLen;omega) (Maps.keyOf_int_mk Tryz.underlying3 ht.wf) (.slice (some ⟨r,0,none⟩) ((g.copies t).length+1) cap)
 obtain ⟨Y,s2⟩:=h.moreC (t:=t) (p:=p) (w0:=w.alloc (.cells #[.int .i64 p] 3)) (v:=.slice (some ⟨r,0,none⟩) ((g.copies t).length+1) cap) (f:=Gm.put f (.int .i64 t) (.slice (some ⟨r,0,none⟩) ((g.copies t).length+1) cap)) (aL _ _) l j (fun b hb=>by
  obtain rfl:r=b:=by simpa [Value.ownBlock] using hb
  exact I) D s (fun u=>by
  by_cases e:u=t
  ·subst e
   rw[Gm.pQ _ (by trivial),if_pos rfl]
  ·rw[Gm.kT _ _ (aE1 e),if_neg e];exact h4 u) (by have:=h.few;split<;>omega) hm
 refine ⟨_,w5,w6,_,X,O,⟨_,_,_,rfl⟩,Y,s2,fun d hd Q=>?_,?_⟩
 ·rw[j.block d (by simp;omega) fun e=>Q (h.rowP t d e.symm).1,Below.heap_alloc _ _ _ hd]
 ·have y:=(h.up.2 _ h.pb.1).2
  rw[j.block sb (by simp;omega) fun e=>(h.rowP t sb e.symm).2.1 rfl,Below.heap_alloc _ _ _ y]
end
attribute [-go_sem] Builtin.append_
section
variable {P:Nat->Prop}{B:Nat}{w:World}{sb m Pn:Nat}{nums:List Int}{g:Sg}{c:Sv}
theorem nU (h:SM P B w sb m nums g c) (hI:Inv Pn g) (hm:m<100000) {k:Nat}{t:Int}(hp:k<Pn) (ht:0≤t/\t≤m) :
    Calls Tryz.prog 47 #[.pointer (some ⟨sb,0,none⟩),.int .i64 (k:Int),.int .i64 t] w fun e w'=>e=.returned (.tuple #[])/\Hid (∃c',SM (Up P w w') B w' sb (m+1) nums (wC g k t) c'/\bM P w w'):=by
 have hf:=h.few
 obtain ⟨old,hold⟩:∃old,old=get g.there k:=⟨_,rfl⟩
 have au:=hI.tr k (by omega) (by omega)
 rw[<-hold] at au
 have aj:jF old:=by unfold jF;omega
 have aw:jF t:=by unfold jF;omega
 have D:(k:Int)∈g.copies old:=(hI.cp _ _).2 ⟨⟨by omega,by omega⟩,hold.symm⟩
 have s:g.copies old≠[]:=fun e=>by rw[e] at D;cases D
 obtain ⟨q,hq⟩:∃q,q=w.heap.size:=⟨_,rfl⟩
 obtain ⟨W,hW⟩:∃W,W=w.alloc (.cells #[.int .i64 (k:Int)] 3):=⟨_,rfl⟩
 have bW:Below w.heap.size w W:=by rw[hW];exact aL _ _
 have kW:W.heap[q]?=some (.cells #[.int .i64 (k:Int)] 3 (0,0)):=by rw[hW,hq];exact aX _ _
 have Y:SM P B W.drew sb m nums g c:=(h.below bW).drew
 have ad:¬P q:=fun e=>by have:=(h.up.2 q e).2;omega
 obtain ⟨bT,J,ae,av,az⟩:=pU Y.rt (fun e=>by have:=hI.tl;rw[e] at this;simp at this;omega)
 have U:k<g.there.length:=by rw[hI.tl];exact hp
 have ck:=av k U
 rw[show g.there.getD k 0=old by rw[hold,Nx.Yb]] at ck
 obtain ⟨bC,aa,O,ay,-⟩:=pU (Y.rw old s) s
 have ag:=Y.lookC aj
 rw[show cvS g c old=c.fv old from if_neg s,O] at ag
 have y:=Lp (w:=W.drew) (q:=q) (p:=(k:Int)) (aF kW 0 rfl) (fun e=>ad (by rw[e];exact (Y.pw old s bC (by rw[O];rfl)).1)) (by have:=Y.rw old s;rw[O] at this;exact this) (by have:=Y.lw old;omega) D
 obtain ⟨-,c1,c2,-,-,-,-⟩:=Y.cells
 rw[ae] at c2
 have cq:W.drew.cell? ⟨q,0,none⟩=some (.int .i64 (k:Int)):=aF kW 0 rfl
 have ak:=Nx.Q7 (some ⟨bT,0,none⟩) bT 0 g.there.length J k U (fun _=>rfl)
 rw[aX1] at ak
 obtain ⟨n,hn⟩:∃n,n=g.there.length:=⟨_,rfl⟩
 obtain ⟨l,hl⟩:∃l,l=(g.copies old).length:=⟨_,rfl⟩
 obtain ⟨d,hd⟩:∃d,d=(lH (k:Int) (g.copies old)).length:=⟨_,rfl⟩
 have I:Hid (SM P B w sb m nums g c/\SM P B W.drew sb m nums g c/\Below w.heap.size w W/\W.heap[q]?=some (.cells #[.int .i64 (k:Int)] 3 (0,0))/\q=w.heap.size/\¬P q):=⟨h,Y,bW,kW,hq,ad⟩
 have j:Hid (c.vT=.slice (some ⟨bT,0,none⟩) n J/\c.fv old=.slice (some ⟨bC,0,none⟩) l aa/\g.copies old≠[]/\n=g.there.length/\l=(g.copies old).length/\d=(lH (k:Int) (g.copies old)).length/\old=get g.there k/\k<n):=⟨by rw[hn];exact ae,by rw[hl];exact O,s,hn,hl,hd,hold,by rw[hn];exact U⟩
 rw[<-hl] at ag y
 rw[<-hd] at y
 rw[<-hn] at c2 ak
 have HN:Hid (jF old/\jF t/\m<100000/\Inv Pn g/\k<Pn):=⟨aj,aw,hm,hI,hp⟩
 clear h Y bW kW ad ae av az U O ay s D au hold hn hl hd hI aj aw hm hp hf ht
 go_enter Tryz.func47,Tryz.ntmps47
 go_upto_region 1 with fail
 rw[<-hW,<-hq]
 clear hW hq
 go_region
 all_goals
  go_upto_region 3 with (go_at_call 78;refine y.mono ?_;rintro e w2 ⟨rfl,h2⟩;clear y)
  clear ag c1 c2 cq ck
  have key:∃w3 c3,(if 0<d then (Instr.mapUpdate 59 (.map (some c.bc)) (.int .i64 old) (.slice (some ⟨bC,0,none⟩) d aa)).run Tryz.prog w2=.ok () w3 else (Builtin.delete_ #[59,3] 0 #[.map (some c.bc),.int .i64 old]).run Tryz.prog w2=.ok (.tuple #[]) w3)/\
      SM P B w3 sb m nums { g with copies:=kZ g.copies old k } c3/\bM P W.drew w3/\c3.bc=c.bc/\c3.vT=c.vT:=by
   by_cases hd0:lH (k:Int) (g.copies old)=[]
   ·obtain ⟨w3,n',e1,e2,e3⟩:=Ex I.out.2.1 HN.out.1 j.out.2.2.1 (by rw[j.out.2.1,j.out.2.2.2.2.1]) h2.out.2 hd0 0
    exact ⟨w3,_,by rw[if_neg (by rw[j.out.2.2.2.2.2.1,hd0];simp)];exact e1,e2,e3,rfl,rfl⟩
   ·obtain ⟨w3,n',e1,e2,e3⟩:=Eh I.out.2.1 (Nat.le_of_lt HN.out.2.2.1) HN.out.1 j.out.2.2.1 (by rw[j.out.2.1,j.out.2.2.2.2.1]) (by have:=h2.out.1;rw[j.out.2.2.2.2.2.1] at this;exact this) h2.out.2 hd0
    refine ⟨w3,_,?_,e2,e3,rfl,rfl⟩
    rw[if_pos (by rw[j.out.2.2.2.2.2.1];exact List.length_pos_iff.2 hd0),j.out.2.2.2.2.2.1]
    exact e1
  obtain ⟨w3,c3,Z,e2,e3,e4,e5⟩:=key
  have an:(cvS g c old).ownBlock=some bC:=by unfold cvS;rw[if_neg j.out.2.2.1,j.out.2.1];rfl
  have k2:=h2.out.2.heap I.out.2.1.hk (fun e=>(I.out.2.1.rowP old bC an).2.1 e.symm)
  have d1:=aF k2 1 (u:=.map (some c.bc)) rfl
  have q3:w3.heap[q]?=some (.cells #[.int .i64 (k:Int)] 3 (0,0)):=e3.heap I.out.2.2.2.1 I.out.2.2.2.2.2
  have Q:=e2.drew
  obtain ⟨-,-,z2,-,-,-,-⟩:=Q.cells
  rw[e5,j.out.1] at z2
  have zr:=Q.rt
  rw[e5,j.out.1] at zr
  have al:k<n:=j.out.2.2.2.2.2.2.2
  have zk:w3.drew.cell? ⟨bT,k,none⟩=some (.int .i64 (g.there.getD k 0)):=by
   rw[World.ownsRow.cellAt (n:=n) (by have:=zr;rw[j.out.2.2.2.1] at this ⊢;exact this) k (by omega),aW4,aN3 (by rw[<-j.out.2.2.2.1];exact al),iO,aN3 (by rw[<-j.out.2.2.2.1];exact al)]
   rfl
  have zf:w3.drew.frozen? ⟨bT,k,none⟩=false:=World.ownsRow.frozenAt (n:=n) (by have:=zr;rw[j.out.2.2.2.1] at this ⊢;exact this) k
  have zq:w3.drew.cell? ⟨q,0,none⟩=some (.int .i64 (k:Int)):=aF q3 0 rfl
  obtain ⟨X,hX⟩:∃X,X=(w3.setCell ⟨bT,k,none⟩ (.int .i64 t)).drew:=⟨_,rfl⟩
  have r:=Q.setT (bT:=bT) (cap:=J) (by rw[e5,j.out.1,j.out.2.2.2.1]) (k:Int) t (by omega)
  rw[aW7,show w3.drew.setCell ⟨bT,k,none⟩ (.int .i64 t)=X from hX.symm] at r
  have fX:bM P W.drew X:=e3.drew.trans r.2 fun _ _ h=>h
  have qX:X.heap[q]?=some (.cells #[.int .i64 (k:Int)] 3 (0,0)):=fX.heap I.out.2.2.2.1 I.out.2.2.2.2.2
  obtain ⟨v5,w5,w6,c6,ac,ba,⟨a5,n5,k5,bb⟩,ao,ah,ax,ab⟩:=Eg (t:=t) (p:=(k:Int)) r.1.drew HN.out.2.2.1 HN.out.2.1
  have af:=r.1.drew.lookC HN.out.2.1
  obtain ⟨a0,n0,ai,-⟩:=(r.1.drew.rowC t).form
  obtain ⟨vl,ap⟩:∃l,l=(kZ g.copies old k t).length:=⟨_,rfl⟩
  rw[ai] at af ac
  rw[e4] at af ba
  subst bb
  have ar:(Builtin.append_ #[23,23] 23 #[.slice a0 (kZ g.copies old k t).length n0,.slice (some ⟨X.heap.size,0,none⟩) 1 1]).run Tryz.prog (X.alloc (.cells #[.int .i64 (k:Int)] 3)).drew=.ok (.slice (some a5) n5 k5) w5:=ac
  have am:(Instr.lookup 59 (.map (some c.bc)) (.int .i64 t) false).run Tryz.prog (X.alloc (.cells #[.int .i64 (k:Int)] 3)).drew=.ok (.slice a0 (kZ g.copies old k t).length n0) (X.alloc (.cells #[.int .i64 (k:Int)] 3)).drew:=by
   have:=(r.1.below (aL X (.cells #[.int .i64 (k:Int)] 3))).drew.lookC HN.out.2.1
   rw[ai,e4] at this
   exact this
  rw[<-ap] at af am ar
  have x1:X.drew.cell? ⟨sb,1,none⟩=some (.map (some c.bc)):=by rw[<-e4];exact r.1.drew.cells.2.1
  have bg:(X.alloc (.cells #[.int .i64 (k:Int)] 3)).drew.cell? ⟨sb,1,none⟩=some (.map (some c.bc)):=aN (aL X _) x1
  have bf:w5.cell? ⟨sb,1,none⟩=some (.map (some c.bc)):=by rw[aY4 ab];exact x1
  have xq:X.drew.cell? ⟨q,0,none⟩=some (.int .i64 (k:Int)):=aF qX 0 rfl
  have HF:Hid (∃c',SM (Up P w w6) B w6 sb (m+1) nums (wC g k t) c'/\bM P w w6):=by
   have f1:bM P w X:=(bM.of_below (P:=P) I.out.2.2.1.drew).trans fX fun _ _ h=>h
   have be:wC g k t=⟨g.made,fun x=>if x=t then kZ g.copies old k t++[(k:Int)] else kZ g.copies old k x,put g.there k t,g.things,g.code⟩:=by rw[j.out.2.2.2.2.2.2.1];rfl
   rw[be]
   refine ⟨c6,ao.carry (fun _ _=>rfl) (fun _ _ _=>rfl) (aN4 _) (fun b hb=>?_) (fun b hb=>?_),f1.drew.trans ah fun _ _ h=>h⟩
   ·exact hb.elim .inl fun h=>.inr ⟨aO4 f1.size h.1,h.2⟩
   ·rcases hb with hb|hb
    ·exact ⟨(I.out.1.up.2 b hb).1,aO2 (I.out.1.up.2 b hb).2 (f1.drew.trans ah fun _ _ h=>h).size⟩
    ·exact ⟨aO4 I.out.1.up.1 hb.1,hb.2⟩
  clear ac ao ah ax ab r fX qX ai ap e2 e3 e4 e5 Q zr an k2 q3 I j HN h2
  by_cases hd0:0<d
  ·rw[if_pos hd0] at Z
   go_upto_region 6 with fail
   go_region
   all_goals
    go_upto_region 7 with fail
    rw[<-hX]
    clear hX
    go_region
    all_goals
     go_wp2_with fail
     go_end0
     exact ⟨rfl,HF.out⟩
  ·rw[if_neg hd0] at Z
   obtain rfl:d=0:=by omega
   go_upto_region 6 with fail
   go_region
   all_goals
    go_upto_region 7 with fail
    rw[<-hX]
    clear hX
    go_region
    all_goals
     go_wp2_with fail
     go_end0
     exact ⟨rfl,HF.out⟩
end
end Sx
end
end Go.Proofs.YthieaobjdpfcoaaGreatDoor
