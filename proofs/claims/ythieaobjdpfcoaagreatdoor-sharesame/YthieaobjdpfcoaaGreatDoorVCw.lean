import Derived.Test.YthieaobjdpfcoaaGreatDoorVCs3
import Derived.BigQuiet
set_option maxRecDepth 100000
set_option maxHeartbeats 8000000
namespace Go.Proofs.YthieaobjdpfcoaaGreatDoor
open Tryz (prog)
section
open Go.RowKit Px
def Zu (A:Nat->Prop) (w:World) (v:Value) (zs:List Nat):Prop:=∃ad g cap,v=.slice ad zs.length cap/\(0<zs.length->ad=some ⟨g,0,none⟩/\A g/\g<w.heap.size)/\∀k,k<zs.length->w.cell? ⟨g,k,none⟩=some (.int .i64 ((zs.getD k 0:Nat):Int))
def mH {ρ:Type}(w:World) (g:Nat) (l:List (cF ρ)):Prop:=∀i s,l[i]?=some s->g<w.heap.size/\w.cell? ⟨g,i*9,none⟩=some (sv s.name)/\w.cell? ⟨g,i*9+1,none⟩=some (.bool s.first)/\s.name.length≤maxLen/\s.ways.length≤1000000/\
 ∃ay gy capy,w.cell? ⟨g,i*9+7,none⟩=some (.slice ay s.ways.length capy)/\(0<s.ways.length->ay=some ⟨gy,0,none⟩/\gy<w.heap.size)/\vQ w gy s.ways
theorem vQ.keep {w w':World}{gy:Nat}{c:List Wy}(h:vQ w gy c) (k:0<c.length->w'.heap[gy]?=w.heap[gy]?):vQ w' gy c:=by
 intro m y j
 have e:=k (by have:=(aO7.1 j).1;omega)
 have l:∀o,w'.cell? ⟨gy,o,none⟩=w.cell? ⟨gy,o,none⟩:=fun o=>aY6 (w:=w) (a:=⟨gy,o,none⟩) e
 obtain ⟨p,q,h⟩:=h m y j
 refine ⟨p,q,?_⟩
 simp only[l]
 exact h
theorem mH.below {ρ:Type}{w w':World}{g:Nat}{l:List (cF ρ)}(h:mH w g l) (hb:Below w.heap.size w w'):mH w' g l:=by
 intro i s U
 obtain ⟨J,y,r,O,u,Q,n,c,I,k,D⟩:=h i s U
 exact ⟨aO5 J hb.size,aN hb y,aN hb r,O,u,Q,n,c,aN hb I,fun j=>⟨(k j).1,aO5 (k j).2 hb.size⟩,D.keep fun j=>hb.block n (k j).2⟩
theorem mH.names {ρ:Type}{w:World}{g:Nat}{l:List (cF ρ)}(h:mH w g l):E5 w g l.length (bD l):=by
 refine ⟨(mV l).symm,fun i c=>?_⟩
 obtain ⟨_,j,_,k,_⟩:=h i _ (aN4 c)
 rw[D2 l i _ (aN4 c)]
 exact ⟨j,k⟩
theorem Tryz.ckInfoInt:(prog.info? 3).map (fun i=>(i.zero,i.size,i.bytes))=some (some (.int .i64 0),1,8):=by kernel_rfl
theorem Ui (n:Nat):(madeCells (Value.cells (.int .i64 0)) (n*1))=((List.replicate n (0:Int)).map (Value.int .i64)).toArray:=by
 apply Array.toList_inj.1
 apply List.ext_getElem
 ·simp[madeCells]
 ·intro k c h
  simp[madeCells,Value.cells,Nat.mod_one]
theorem Iw (w:World) (l n:Nat) (r:l≤n) (s:n≤1000000):(Instr.makeSlice 23 (.int .i64 (l:Int)) (.int .i64 (n:Int))).run prog w=.ok (.slice (some ⟨w.heap.size,0,none⟩) l n) (w.alloc (.cells ((List.replicate n (0:Int)).map (Value.int .i64)).toArray 3)):=by
 obtain ⟨i0,k,h,j,c⟩:=aZ1 Tryz.ckInfoInt
 have:=run_make (P:=prog) w 23 3 i0 (.int .i64 0) Tryz.underlying23 k h .i64 .i64 (l:Int) (n:Int) (by omega) (by omega) (by rw[c];omega) (by omega)
 rw[this,j]
 simp only[aW9]
 rw[Ui]
theorem vX {P:Program}{w w':World}{ops:Array Oper}{rest:List Oper}{o:Oper}{a:Act}{Q:Exit->Act->World->Prop}(hgd:o.guard=none) (s x:Operand) (t:TypeId)
    (ho:o.op=.call { callee:=.builtin .append,args:=#[s,x],argTypes:=#[t,t] }) (vs vx r:Value) (hs:a.eval s=vs) (hx:a.eval x=vx) (hr:(Builtin.append_ #[t,t] o.type #[vs,vx]).run P w=.ok r w') (h:wpList P ops Q rest (a.put o.dst r) w'):wpList P ops Q (o::rest) a w:=
 wpList_plain hgd fun _ hK=>by
  unfold Oper.wp execOp
  simp only[ho,resolve,invoke,builtin,Sem.run_bind,Sem.run_pure,Result.andThen_ok,List.map_toArray,List.map_cons,List.map_nil,hs,hx,hr]
  exact hK _ _ h
theorem aG0 {w:World}{go r n q:Nat}{X:List Int}(x:Int) (l:dF w go X) (O:X.length=n) (J:r<n) (y:w.cell? ⟨q,0,none⟩=some (.int .i64 x)) :
    (Builtin.append_ #[23,23] 23 #[.slice (some ⟨go,0,none⟩) r n,.slice (some ⟨q,0,none⟩) 1 1]).run prog w=.ok (.slice (some ⟨go,0,none⟩) (r+1) n) (w.setCell ⟨go,r,none⟩ (.int .i64 x)):=by
 obtain ⟨i0,I,D,c,s⟩:=aZ1 Tryz.ckInfoInt
 have k:=l.cell r (by omega)
 have:=run_append_room_cells (P:=prog) w 23 23 3 i0 Tryz.underlying23 I go 0 r n ⟨q,0,none⟩ 1 1 [.int .i64 x] (by rw[c];rfl) (fun j u h=>by
  cases j with
  | zero=>simp at h;subst h;simpa [Addr.add] using y
  | succ j=>simp at h) (by simp[Value.oneCell']) (by omega) (fun j h=>by
   obtain rfl:j=0:=by simpa using h
   rw[c,aX3,Nat.mul_one,aY4,k];rfl) (fun j h=>by
   obtain rfl:j=0:=by simpa using h
   rw[c,aX3,Nat.mul_one,aY4];exact aG l _)
 rw[this,c,aX3,Nat.mul_one]
 rfl
structure Nv {ρ:Type}(W:World) (ad:Option Addr) (g n cap rb fb wb gw pb mb nm:Nat) (l:List (cF ρ)):Prop where
 hrb:W.cell? ⟨rb,0,none⟩=some (.slice ad n cap)
 hfb:W.cell? ⟨fb,0,none⟩=some (.func (.func 112) #[] #[.pointer (some ⟨pb,0,none⟩)])
 hwb:W.cell? ⟨wb,0,none⟩=some (.slice (some ⟨gw,0,none⟩) n n)
 hpb:W.heap[pb]?=some (.cells #[.map (some mb)] 177 (0,0))
 hmb:iD W mb nm (jT (bD l))
 sts:mH W g l
 gl:∀i s,l[i]?=some s->g≠gw/\∀ay gy capy,W.cell? ⟨g,i*9+7,none⟩=some (.slice ay s.ways.length capy)->0<s.ways.length->ay=some ⟨gy,0,none⟩->gy≠gw
 ne:gw≠rb/\gw≠fb/\gw≠wb/\gw≠pb/\gw≠mb
theorem Nv.fr {ρ:Type}{W wr:World}{ad:Option Addr}{g n cap Y fb Z D pb mb nm:Nat}{l:List (cF ρ)}(h:Nv W ad g n cap Y fb Z D pb mb nm l) (I:Fr W.heap.size [D] W wr):Nv wr ad g n cap Y fb Z D pb mb nm l:=by
 obtain ⟨e1,e2,e3,e4,e5⟩:=h.ne
 have y:∀{b o:Nat}{v:Value},b≠D->W.cell? ⟨b,o,none⟩=some v->wr.cell? ⟨b,o,none⟩=some v:=fun {b o v} hb hv=>by
  rw[I.cell (p:=⟨b,o,none⟩) (aY5 W _ hv) (by simpa using hb)];exact hv
 have U:∀{b:Nat},b≠D->b<W.heap.size->wr.heap[b]?=W.heap[b]?:=fun {b} hb hl=>I.block b hl (by simpa using hb)
 have hs:mH wr g l:=by
  intro i s j
  obtain ⟨h0,h1,h2,h3,h4,J,Q,c,e,O,h7⟩:=h.sts i s j
  have k:=(h.gl i s j).1
  have X:=(h.gl i s j).2 J Q c e
  exact ⟨aO5 h0 I.size,y k h1,y k h2,h3,h4,J,Q,c,y k e,fun u=>⟨(O u).1,aO5 (O u).2 I.size⟩,h7.keep fun u=>U (X u (O u).1) (O u).2⟩
 refine ⟨y (Ne.symm e1) h.hrb,y (Ne.symm e2) h.hfb,y (Ne.symm e3) h.hwb,by rw[U (Ne.symm e4) (aB h.hpb)];exact h.hpb,h.hmb.keep (U (Ne.symm e5) h.hmb.lt),hs,fun i s j=>⟨(h.gl i s j).1,fun J Q c r=>(h.gl i s j).2 J Q c ?_⟩,h.ne⟩
 rw[<-r,I.cell (p:=⟨g,i*9+7,none⟩) (h.sts i s j).1 (by simpa using (h.gl i s j).1)]
theorem Nv.count {ρ:Type}{W:World}{ad:Option Addr}{g n cap J fb Q u pb mb nm:Nat}{l:List (cF ρ)}(h:Nv W ad g n cap J fb Q u pb mb nm l) (hn:n=l.length) (ha:0<n->ad=some ⟨g,0,none⟩) {V:List Int}(hV:dF W u V) (D:V.length=n) (c:Int) (i:Nat) (hi:i<n)
    (r:∀m j,m≤((cQ l).getD i []).length->-4611686018427387904≤(jJ n c ((cQ l).getD i []) m V).getD j 0/\(jJ n c ((cQ l).getD i []) m V).getD j 0≤4611686018427387904) :
 Calls prog 201 #[.int .i64 (i:Int),.int .i64 c,.pointer (some ⟨J,0,none⟩),.pointer (some ⟨fb,0,none⟩),.pointer (some ⟨Q,0,none⟩)] W fun e w'=>e=.returned (.tuple #[])/\Hid (dF w' u (jJ n c ((cQ l).getD i []) ((cQ l).getD i []).length V)/\Fr W.heap.size [u] W w'):=by
 obtain ⟨s,y⟩:∃s,l[i]?=some s:=⟨l[i]'(by omega),aN4 (by omega)⟩
 obtain ⟨e1,e2,e3,e4,X⟩:=h.ne
 obtain ⟨h0,h1,h2,h3,h4,Z,gy,k,U,O,h7⟩:=h.sts i s y
 rw[Sy l i s y,xT] at r ⊢
 exact Cg c hi ha (N:=s.ways.length) rfl h4 ⟨D.symm,fun s t Y=>by have:=(tQ Y).1;rw[mV] at this;omega⟩ h.hrb h.hfb h.hwb h.hpb h.hmb hV U O h7 ⟨e2,e3,e4,X,fun I=>Ne.symm ((h.gl i s y).2 Z gy k U I (O I).1)⟩ r
theorem G7 {ρ:Type}(l:List (cF ρ)) (T:List Bool) (j:Nat) (k:Nat) (n:k≤l.length) (r:l.length≤1000000) (c:∀s∈l,s.ways.length≤1000000):rC (cQ l) T j k≤1000000000000:=by
 have:=Yk (cQ l) T j 1000000 (fun i=>by
  rw[cQ,iO,aW6]
  cases h:l[i]? with
  | none=>simp
  | some s=>simp only[Option.map_some,Option.getD_some];rw[xT];exact c s (aP1 h)) k
 have u:k*1000000≤1000000*1000000:=Nat.mul_le_mul_right _ (by omega)
 omega
theorem F9 {ρ:Type}(l:List (cF ρ)) (c:∀s∈l,s.ways.length≤1000000) (i:Nat):((cQ l).getD i []).length≤1000000:=by
 rw[cQ,iO,aW6]
 cases h:l[i]? with
 | none=>simp
 | some s=>simp only[Option.map_some,Option.getD_some];rw[xT];exact c s (aP1 h)
theorem zK (n:Nat) (c:Int) (k:c=1\/c=-1) (h:List (Option Nat)) (s:h.length≤1000000) (V:List Int) (u:∀j,-1≤V.getD j 0/\V.getD j 0≤1000000000000) (m j:Nat) (r:m≤h.length):-4611686018427387904≤(jJ n c h m V).getD j 0/\(jJ n c h m V).getD j 0≤4611686018427387904:=by
 by_cases hj:j<V.length
 ·rw[V8 n c h V m r j hj]
  have D:=List.count_le_length (a:=some j) (l:=h.take m)
  have y:(h.take m).length≤h.length:=by rw[List.length_take];omega
  have I:=u j
  rcases k with rfl|rfl<;>omega
 ·rw[iO,aX5 (by rw[mG];omega)]
  simp
end
section
open Go.RowKit Px
theorem Jn {ρ:Type}(l:List (cF ρ)) (T:List Bool) (h:l.length≤1000000) (c:∀s∈l,s.ways.length≤1000000) (j:Nat):-1≤(Cw (cQ l) T).getD j 0/\(Cw (cQ l) T).getD j 0≤1000000000000:=by
 by_cases hj:j<(cQ l).length
 ·rw[xR _ _ _ hj]
  have:=G7 l T j (cQ l).length (by rw[fM];exact aO4 _) h c
  unfold sJ
  split<;>omega
 ·rw[iO,aX5 (by rw[jV];omega)]
  simp
theorem I8 {ρ:Type}(l:List (cF ρ)) (k:Nat) (n:k≤l.length) (h:l.length≤1000000) (c:∀s∈l,s.ways.length≤1000000) (j:Nat):-1≤(jW (cQ l) k).getD j 0/\(jW (cQ l) k).getD j 0≤1000000000000:=by
 by_cases hj:j<(cQ l).length
 ·rw[C3 _ _ _ hj]
  have:=G7 l (List.replicate (cQ l).length false) j k n h c
  omega
 ·rw[iO,aX5 (by rw[mB];omega)]
  simp
theorem Kp {V:List Int}(h:∀j,-1≤V.getD j 0/\V.getD j 0≤1000000000000) (i:Nat) (j:Nat):-1≤(V.set i (-1)).getD j 0/\(V.set i (-1)).getD j 0≤1000000000000:=by
 rw[iO,aX4]
 by_cases e:i=j
 ·subst e
  by_cases hl:i<V.length
  ·simp[hl]
  ·simp[hl]
 ·rw[if_neg e,<-iO];exact h j
theorem Fy {w:World}{g n cap j:Nat}{G:List (List (Option Nat))}{T:List Bool}(I:n=G.length) (s:n≤1000000) (u:dF w g (Cw G T)) (y:wL G T=some j) :
 Calls prog 77 #[.slice (some ⟨g,0,none⟩) n cap,.int .i64 0] w fun e w'=>e=.returned (.int .i64 (j:Int))/\w'=w:=by
 refine (qQ (by rw[Hid,jV];exact I) s u).mono fun e w' ⟨hw,ho⟩=>⟨?_,hw⟩
 obtain ⟨l,r,D⟩:=nY y
 rcases ho with ⟨k,rfl,O,J,c⟩|⟨rfl,c⟩
 ·have h:=(sO G T k (by omega)).1 J
  have:k=j:=by
   by_cases h1:k<j
   ·rw[D k h1] at h;simp at h
   ·by_cases h2:j<k
    ·exact absurd ((sO G T j l).2 r) (c j h2)
    ·omega
  rw[this]
 ·exact absurd ((sO G T j l).2 r) (c j (by omega))
theorem Fz {w:World}{g n cap:Nat}{G:List (List (Option Nat))}{T:List Bool}(s:n=G.length) (j:n≤1000000) (l:dF w g (Cw G T)) (r:wL G T=none) :
 Calls prog 77 #[.slice (some ⟨g,0,none⟩) n cap,.int .i64 0] w fun e w'=>e=.returned (.int .i64 (-1))/\w'=w:=by
 refine (qQ (by rw[Hid,jV];exact s) j l).mono fun e w' ⟨hw,ho⟩=>⟨?_,hw⟩
 rcases ho with ⟨k,rfl,y,u,c⟩|⟨rfl,c⟩
 ·have h:=(sO G T k (by omega)).1 u
  rw[Es r k (by omega)] at h;simp at h
 ·rfl
theorem Zr {W wr w':World}{gw:Nat}(h:Fr W.heap.size [gw] W wr) (k:Fr wr.heap.size [gw] wr w'):Fr W.heap.size [gw] W w':=h.trans (k.mono h.size (fun _ hx _=>hx))
theorem rJ {w:World}{a:Addr}{v:Value}{b:Nat}(h:b≠a.block):(w.setCell a v).heap[b]?=w.heap[b]?:=Below.heap_setCell _ _ _ _ h
def aN9 {ρ:Type}(W wr:World) (gw go n r:Nat) (l:List (cF ρ)):Prop:=
 ∃(os:List Nat) (T:List Bool) (X:List Int),pR (cQ l) r=some (os,T)/\dF wr gw (Cw (cQ l) T)/\Fr W.heap.size [gw] W wr/\dF wr go X/\X.length=n/\(∀k,k<r->X.getD k 0=((os.getD k 0:Nat):Int))/\W.heap.size≤go
def Hd (w:World) (oo:Option (List Nat)) (e:Ending) (w':World):Prop:=Below w.heap.size w w'/\((oo=none/\e=.returned (.tuple #[.slice none 0 0,.bool false]))\/∃o v,oo=some o/\e=.returned (.tuple #[v,.bool true])/\Zu (fun b=>w.heap.size≤b) w' v o)
theorem Ai {ρ:Type}{w:World}{ad:Option Addr}{g n cap:Nat}{l:List (cF ρ)}{oo:Option (List Nat)}(aw:Hid (eO (cQ l)=oo)) (D:Hid (n=l.length)) (hm:n≤1000000) (ha:0<n->ad=some ⟨g,0,none⟩) (hS:mH w g l) :
 Calls prog 155 #[.slice ad n cap] w fun e w'=>Hd w oo e w':=by
 have cg:∀(fn:Fn) (first cap:Array Value) (w:World),(Instr.makeFunc fn first cap).run prog w=.ok (.func fn first cap) w:=fun _ _ _ _=>rfl
 have HS:Hid (mH w g l):=hS
 have HA:Hid (0<n->ad=some ⟨g,0,none⟩):=ha
 have ab:Hid (∀s∈l,s.ways.length≤1000000):=fun s hs=>by
  obtain ⟨i,hi⟩:=List.getElem?_of_mem hs
  exact (hS i s hi).2.2.2.2.1
 have hN:=hS.names
 rw[<-D.out] at hN
 have U:=oU (cap:=cap) ha hm (w:=w.alloc (.cells #[.slice ad n cap] 174)) (ns:=bD l) ⟨hN.1,fun i hi=>⟨aN (aL w _) (hN.2 i hi).1,(hN.2 i hi).2⟩⟩
 have bn:=fun X=>Iw X n n (aO4 _) hm
 have ag:∀X,_:=fun X=>Iw X 0 n (aP6 _) hm
 rw[show ((0:Nat):Int)=0 from rfl] at ag
 obtain ⟨ZF,ak⟩:=gQx (Obj.cells ((List.replicate n (0:Int)).map (Value.int .i64)).toArray 3)
 rw[<-ak] at bn ag
 have HZ:Hid (ZF=Obj.cells ((List.replicate n (0:Int)).map (Value.int .i64)).toArray 3):=ak
 clear hS hN ak ha
 go_enter Tryz.func155,Tryz.ntmps155
 go_upto_region 4 with (refine U.mono ?_;rintro e w1 ⟨f,rfl,⟨pb,mb,nm,rfl,au,bh⟩,hb⟩;have HF:Hid ((w1.heap[pb]?=some (.cells #[.map (some mb)] 177 (0,0))/\iD w1 mb nm (jT (bD l)))/\Below (w.alloc (.cells #[.slice ad n cap] 174)).heap.size (w.alloc (.cells #[.slice ad n cap] 174)) w1):=⟨⟨au,bh⟩,hb⟩;have cr:=aN hb (aF (aX w (.cells #[.slice ad n cap] 174)) 0 rfl);have bj:=aN (aL w1 (.cells #[.func (.func 112) #[] #[.pointer (some ⟨pb,0,none⟩)]] 123)) cr;clear au bh hb)
 clear U bj
 obtain ⟨W,hW⟩:=gQx ((((w1.alloc (.cells #[.func (.func 112) #[] #[.pointer (some ⟨pb,0,none⟩)]] 123)).alloc ZF).alloc (.cells #[.slice (some ⟨w1.heap.size+1,0,none⟩) n n] 23)))
 obtain ⟨rb,ar⟩:=gQx w.heap.size
 obtain ⟨fb,ap⟩:=gQx w1.heap.size
 obtain ⟨u,aa⟩:=gQx (w1.heap.size+1)
 obtain ⟨wb,aj⟩:=gQx (w1.heap.size+1+1)
 have O:Hid (Nv W ad g n cap rb fb wb u pb mb nm l/\dF W u (jW (cQ l) 0)/\Below w.heap.size w W/\w.heap.size≤u/\u<W.heap.size):=by
  have bm:Below w.heap.size w w1:=aQ (aL w _) HF.out.2
  have ce:w.heap.size<w1.heap.size:=by have:=HF.out.2.size;simp at this;omega
  have af:Below w1.heap.size w1 W:=by rw[hW];exact ((((Below.refl _ _).alloc (aO4 _) _).alloc (by simp) _).alloc (by simp;omega) _)
  have bz:W.heap.size=w1.heap.size+1+1+1:=by rw[hW];simp
  have ai:Below w.heap.size w W:=bm.trans (af.mono (by omega))
  have h1:W.heap[w1.heap.size]?=some (.cells #[.func (.func 112) #[] #[.pointer (some ⟨pb,0,none⟩)]] 123 (0,0)):=by
   rw[hW,Below.heap_alloc _ _ _ (by simp;omega),Below.heap_alloc _ _ _ (by simp)];exact heap_alloc_new _ _
  have h2:W.heap[w1.heap.size+1]?=some ZF:=by
   rw[hW,Below.heap_alloc _ _ _ (by simp)]
   have e:w1.heap.size+1=(w1.alloc (.cells #[.func (.func 112) #[] #[.pointer (some ⟨pb,0,none⟩)]] 123)).heap.size:=by simp
   rw[e];exact heap_alloc_new _ _
  have h3:W.heap[w1.heap.size+1+1]?=some (.cells #[.slice (some ⟨w1.heap.size+1,0,none⟩) n n] 23 (0,0)):=by
   rw[hW]
   have e:w1.heap.size+1+1=((w1.alloc (.cells #[.func (.func 112) #[] #[.pointer (some ⟨pb,0,none⟩)]] 123)).alloc ZF).heap.size:=by simp
   rw[e];exact heap_alloc_new _ _
  have lp:=aB HF.out.1.1
  have lm:=HF.out.1.2.lt
  have bk:=HS.out.below ai
  refine ⟨⟨?_,?_,?_,?_,?_,bk,?_,?_⟩,?_,ai,by omega,by omega⟩
  ·rw[ar];exact aN af cr
  ·rw[ap];exact aF h1 0 rfl
  ·rw[aj,aa];exact aF h3 0 rfl
  ·exact aD af HF.out.1.1
  ·exact HF.out.1.2.below af
  ·intro i s hi
   obtain ⟨q0,q1,q2,q3,q4,ay,gy,br,q5,q6,q7⟩:=HS.out i s hi
   refine ⟨by omega,fun cc cd bp hc hp he=>?_⟩
   have:=aN ai q5
   rw[this] at hc
   injection hc with hc
   injection hc with e1 e2 e3
   have:=q6 hp
   rw[e1,he] at this
   have e4:=this.1
   injection e4 with e4
   injection e4 with e4
   omega
  ·omega
  ·rw[aa,dF,h2,HZ.out,jW,fM,<-D.out]
 rw[<-hW]
 rw[<-aj,<-aa,<-ap,<-ar]
 clear hW ar ap aa aj cr HF HS
 have bo:=O.out.1.hrb
 go_wp2_with fail
 clear bo
 go_loopg [18] n (fun f i wr=>∃k:Nat,f=n-k/\k≤n/\i=.int .i64 (k:Int)/\Hid (dF wr u (jW (cQ l) k)/\Fr W.heap.size [u] W wr))
 case atStart=>exact ⟨0,by omega,by omega,rfl,O.out.2.1,Fr.refl _ _ _⟩
 case round=>
  obtain ⟨k,rfl,hk,rfl,hr⟩:=hrel
  have OR:=O.out.1.fr hr.out.2
  by_cases hlt:k<n
  ·have hc:=OR.count D.out HA.out hr.out.1 (by rw[mB,fM];exact D.out.symm) 1 k hlt (fun m j h=>zK n 1 (.inl rfl) _ (F9 l ab.out k) _ (I8 l k (by have:=D.out;omega) (by have:=D.out;omega) ab.out) m j h)
   clear OR
   go_wp2_with (refine hc.mono ?_;rintro e w' ⟨rfl,J⟩)
   go_roundg (n-(k+1))
   case measure=>omega
   case rel=>exact ⟨k+1,rfl,by omega,by go_num,by rw[jW,fM,<-D.out];exact J.out.1,Zr hr.out.2 J.out.2⟩
  ·obtain rfl:k=n:=by omega
   obtain ⟨w3,an⟩:=gQx wr
   have H3:Hid (dF w3 u (Cw (cQ l) (List.replicate (cQ l).length false))/\Fr W.heap.size [u] W w3):=by
    rw[an,<-Dh,fM,<-D.out];exact hr.out
   have c1:=OR.hrb
   rw[<-an] at c1 ⊢
   have c2:=aN (aL w3 ZF) c1
   clear an hr OR
   have av:Hid (aN9 W (w3.alloc ZF) u w3.heap.size k 0 l):=by
    refine ⟨[],_,List.replicate k 0,rfl,eB H3.out.1,H3.out.2.alloc H3.out.2.size _,?_,by simp,fun j hj=>absurd hj (by omega),H3.out.2.size⟩
    rw[dF,aX,HZ.out]
   go_wp2_with fail
   clear c1 c2 H3 HZ
   obtain ⟨go,y⟩:=gQx w3.heap.size
   rw[<-y] at av ⊢
   clear y
   go_loopg [8,30] k (fun f o i wr=>∃r:Nat,f=k-r/\r≤k/\o=.slice (some ⟨go,0,none⟩) r k/\i=.int .i64 (r:Int)/\Hid (aN9 W wr u go k r l))
   case atStart=>exact ⟨0,by omega,by omega,rfl,rfl,av.out⟩
   case round=>
    obtain ⟨r,rfl,bv,rfl,rfl,hr⟩:=hrel
    obtain ⟨os,T,X,c,I,hF,hX,Y,Q,y⟩:=hr.out
    have OR:=O.out.1.fr hF
    by_cases hlt:r<k
    ·have cw:=OR.hwb
     cases hnx:wL (cQ l) T with
     | none=>
      have hc:=Fz (cap:=k) (by rw[fM];exact D.out) hm I hnx
      have HN:Hid (eO (cQ l)=none):=by
       have:pR (cQ l) (r+1)=none:=by rw[pR,c];show (match wL (cQ l) T with|none=>none|some j=>_)=none;rw[hnx]
       have:=Ld this (s:=(cQ l).length) (by rw[fM,<-D.out];omega)
       rw[Hid,eO,this];rfl
      have HB:Hid (Below w.heap.size w wr):=O.out.2.2.1.trans ((hF.mono O.out.2.2.1.size (X':=[]) (fun x hx h=>by have:=O.out.2.2.2.1;simp at hx;omega)).below)
      clear c I hF hX Y Q y OR hnx hr
      go_wp2_with (refine hc.mono ?_;rintro e w' ⟨rfl,rfl⟩)
      go_ret2
      exact ⟨HB.out,.inl ⟨aw.out.symm.trans HN.out,rfl⟩⟩
     | some j=>
      obtain ⟨j1,j2,j3⟩:=nY hnx
      obtain ⟨bi,ae,-⟩:=uY c
      have hc:=Fy (cap:=k) (by rw[fM];exact D.out) hm I hnx
      have ax:j<k:=by rw[fM,<-D.out] at j1;exact j1
      obtain ⟨wa,Z⟩:=gQx ((wr.alloc (.cells #[.int .i64 (j:Int)] 3)).setCell ⟨go,r,none⟩ (.int .i64 (j:Int)))
      have bb:=aG0 (w:=wr.alloc (.cells #[.int .i64 (j:Int)] 3)) (q:=wr.heap.size) (j:Int) (eB hX) Y hlt (aF (aX wr _) 0 rfl)
      rw[<-Z] at bb
      have bq:=aB hX
      have bc:=aB I
      have ao:u≠go:=by have:=O.out.2.2.2.2;omega
      have am:Fr W.heap.size [u] W wa:=by rw[Z];exact (hF.alloc hF.size _).setCell (.inl y) _
      have ac:dF wa u (Cw (cQ l) T):=by
       refine I.keep ?_
       rw[Z,rJ ao,Below.heap_alloc _ _ _ bc]
      have az:dF wa go (X.set r (j:Int)):=by rw[Z];exact dF.set (eB hX) r _
      have bf:=O.out.1.fr am
      have cf:=bf.hwb
      have bw:=ac.cell j (by rw[jV];exact j1)
      have cb:=aG ac j
      have bu:=zE (some ⟨u,0,none⟩) u k k j ax (fun _=>rfl)
      have ah:Fr W.heap.size [u] W (wa.setCell ⟨u,j,none⟩ (.int .i64 (-1))):=am.setCell (.inr (by simp)) _
      have ba:dF (wa.setCell ⟨u,j,none⟩ (.int .i64 (-1))) u ((Cw (cQ l) T).set j (-1)):=ac.set j (-1)
      have bg:dF (wa.setCell ⟨u,j,none⟩ (.int .i64 (-1))) go (X.set r (j:Int)):=az.keep (rJ (Ne.symm ao))
      have be:=(O.out.1.fr ah).count D.out HA.out ba (by rw[aW4,jV,fM];exact D.out.symm) (-1) j ax (fun m i h=>zK k (-1) (.inr rfl) _ (F9 l ab.out j) _ (Kp (Jn l T (by have:=D.out;omega) ab.out) j) m i h)
      have al:=Vv bi j1 j2
      rw[fM,<-D.out] at al
      rw[al] at be
      have HE:Hid (pR (cQ l) (r+1)=some (os++[j],T.set j true)/\Fr W.heap.size [u] W (wa.setCell ⟨u,j,none⟩ (.int .i64 (-1)))/\dF (wa.setCell ⟨u,j,none⟩ (.int .i64 (-1))) go (X.set r (j:Int))/\(X.set r (j:Int)).length=k/\(∀i,i<r+1->(X.set r (j:Int)).getD i 0=(((os++[j]).getD i 0:Nat):Int))/\W.heap.size≤go):=by
       refine ⟨?_,ah,bg,by rw[aW4];exact Y,fun i hi=>?_,y⟩
       ·rw[pR,c];show (match wL (cQ l) T with|none=>none|some j=>some (os++[j],T.set j true))=_;rw[hnx]
       ·rw[iO,aX4]
        by_cases e:r=i
        ·subst e
         rw[if_pos rfl,if_pos (by omega),iO,aW8 (by omega),ae];simp
        ·rw[if_neg e,<-iO,Q i (by omega),iO,iO,aR6 (by omega)]
      have ca:¬(j:Int)<0:=by omega
      clear c I hF hX Y Q OR hnx hr bi ae j1 j2 j3 bq bc am ac az bf ah ba bg al Z
      go_wp2_with (first
       | (go_at_call 77;refine hc.mono ?_;rintro e w' ⟨rfl,rfl⟩)
       | (go_at_call 201;refine be.mono ?_;rintro e w' ⟨rfl,J⟩)
       | (at_builtin;refine vX rfl (.tmp 36) (.tmp 38) _ rfl _ _ _ rfl rfl bb ?_))
      go_roundg (k-(r+1))
      case measure=>omega
      case rel=>
       obtain ⟨e1,e2,e3,e4,e5,e6⟩:=HE.out
       refine ⟨r+1,rfl,by omega,rfl,by go_num,os++[j],T.set j true,X.set r (j:Int),e1,J.out.1,Zr e2 J.out.2,e3.keep (J.out.2.block go (aB e3) (by simpa using Ne.symm ao)),e4,e5,e6⟩
    ·obtain rfl:r=k:=by omega
     have HO:Hid (eO (cQ l)=some os):=by rw[Hid,eO,fM,<-D.out,c];rfl
     obtain ⟨-,ae,-⟩:=uY c
     have HB:Hid (Below w.heap.size w wr/\Zu (fun b=>w.heap.size≤b) wr (.slice (some ⟨go,0,none⟩) r r) os):=by
      refine ⟨O.out.2.2.1.trans ((hF.mono O.out.2.2.1.size (X':=[]) (fun x hx h=>by have:=O.out.2.2.2.1;simp at hx;omega)).below),some ⟨go,0,none⟩,go,r,by rw[ae],fun _=>⟨rfl,aO6 O.out.2.2.1.size y,aB hX⟩,fun i hi=>?_⟩
      rw[hX.cell i (by omega),Q i (by omega)]
     clear c I hF hX Y Q y OR hr
     go_wp2_with fail
     go_ret2
     exact ⟨HB.out.1,.inr ⟨os,_,aw.out.symm.trans HO.out,rfl,HB.out.2⟩⟩
end
section
open Go.RowKit Px
def jE (A:Nat->Prop) (w:World) (gy o:Nat) (y:Wy) (p:Option Addr) (q:Value):Prop:=w.cell? ⟨gy,o,none⟩=some (.int .i64 (y.kind:Int))/\w.cell? ⟨gy,o+1,none⟩=some (.bool y.now)/\w.cell? ⟨gy,o+2,none⟩=some (.pointer p)/\w.cell? ⟨gy,o+3,none⟩=some (.int .i64 (y.times:Int))/\w.cell? ⟨gy,o+4,none⟩=some q/\w.cell? ⟨gy,o+5,none⟩=some (sv y.to)/\w.cell? ⟨gy,o+6,none⟩=some (.bool y.back)/\jR A w y.cond (.pointer p)/\cJ A w y.sets q
theorem qH.open {A:Nat->Prop}{w:World}{l:List Wy}{v:Value}(h:qH A w l v) :
    ∃ad g cap,v=.slice ad l.length cap/\l.length≤maxLen/\(0<l.length->ad=some ⟨g,0,none⟩/\g<w.heap.size)/\∀(i:Nat) (y:Wy),l[i]?=some y->∃p q,jE A w g (i*7) y p q:=by
 obtain ⟨U,s,D⟩:=h
 obtain ⟨ad,g,cap,Q,r,n,O⟩:=wU.open (k:=7) (fun a c ⟨p,q,hc,_⟩=>by rw[hc];rfl) s D
 refine ⟨ad,g,cap,Q,r,fun j=>⟨(n j).1,(n j).2.2⟩,fun i a I=>?_⟩
 obtain ⟨c,⟨p,q,rfl,j,J⟩,hx⟩:=O i a I
 obtain ⟨u,rfl⟩:=j.pt'
 exact ⟨u,q,hx 0 _ rfl,hx 1 _ rfl,hx 2 _ rfl,hx 3 _ rfl,hx 4 _ rfl,hx 5 _ rfl,hx 6 _ rfl,j,J⟩
theorem jE.below {A:Nat->Prop}{w w':World}{gy o:Nat}{y:Wy}{p:Option Addr}{q:Value}(h:jE A w gy o y p q) (hb:Below w.heap.size w w'):jE A w' gy o y p q:=by
 obtain ⟨D,r,l,I,n,u,j,s,k⟩:=h
 exact ⟨aN hb D,aN hb r,aN hb l,aN hb I,aN hb n,aN hb u,aN hb j,s.carry fun x hx c=>⟨hx,hb.block x c⟩,k.carry fun x hx c=>⟨hx,hb.block x c⟩⟩
theorem cJ.sl' {A:Nat->Prop}{w:World}{l:List iY}{v:Value}(h:cJ A w l v):∃a n c,v=.slice a n c:=by
 obtain ⟨k,g,cap,j,_⟩:=h.open;exact ⟨_,_,_,j⟩
structure Ns {ρ:Type}(A:Nat->Prop) (w:World) (g i:Nat) (s:cF ρ) (ve vd vl:Value) (p ay ar:Option Addr) (gy capy capr:Nat):Prop where
 c0:w.cell? ⟨g,i*9,none⟩=some (sv s.name)
 c1:w.cell? ⟨g,i*9+1,none⟩=some (.bool s.first)
 c2:w.cell? ⟨g,i*9+2,none⟩=some (.bool s.last)
 c3:w.cell? ⟨g,i*9+3,none⟩=some ve
 c4:w.cell? ⟨g,i*9+4,none⟩=some vd
 c5:w.cell? ⟨g,i*9+5,none⟩=some vl
 c6:w.cell? ⟨g,i*9+6,none⟩=some (.pointer p)
 c7:w.cell? ⟨g,i*9+7,none⟩=some (.slice ay s.ways.length capy)
 c8:w.cell? ⟨g,i*9+8,none⟩=some (.slice ar s.regions.length capr)
 he:cJ A w s.enter ve
 hd:cJ A w s.during vd
 hl:cJ A w s.leave vl
 hp:jR A w s.rests (.pointer p)
 hw:s.ways.length≤maxLen/\(0<s.ways.length->ay=some ⟨gy,0,none⟩/\gy<w.heap.size)/\∀m y,s.ways[m]?=some y->∃p q,jE A w gy (m*7) y p q
theorem Ns.below {ρ:Type}{A:Nat->Prop}{w w':World}{g i:Nat}{s:cF ρ}{ve vd vl:Value}{p ay ar:Option Addr}{gy capy capr:Nat}(h:Ns A w g i s ve vd vl p ay ar gy capy capr) (hb:Below w.heap.size w w'):Ns A w' g i s ve vd vl p ay ar gy capy capr:=
 ⟨aN hb h.c0,aN hb h.c1,aN hb h.c2,aN hb h.c3,aN hb h.c4,aN hb h.c5,aN hb h.c6,aN hb h.c7,aN hb h.c8,h.he.carry fun x hx hlt=>⟨hx,hb.block x hlt⟩,h.hd.carry fun x hx hlt=>⟨hx,hb.block x hlt⟩,h.hl.carry fun x hx hlt=>⟨hx,hb.block x hlt⟩,h.hp.carry fun x hx hlt=>⟨hx,hb.block x hlt⟩,
  h.hw.1,fun hp=>⟨(h.hw.2.1 hp).1,aO5 (h.hw.2.1 hp).2 hb.size⟩,fun m y hm=>by obtain ⟨p,q,hq⟩:=h.hw.2.2 m y hm;exact ⟨p,q,hq.below hb⟩⟩
theorem gP.len {ρ:Type}{A:Nat->Prop}{w:World}{I:List ρ->Value->Prop}{l:List (List ρ)}{v:Value}(h:gP A w I l v):∃ad g cap,v=.slice ad l.length cap/\l.length≤maxLen/\(0<l.length->ad=some ⟨g,0,none⟩/\g<w.heap.size)/\∀(i:Nat) (r:List ρ),l[i]?=some r->∃u,w.cell? ⟨g,i,none⟩=some u/\I r u:=by
 obtain ⟨X,y,J⟩:=h
 obtain ⟨ad,g,cap,U,s,n,Q⟩:=wU.open (k:=1) (fun a c ⟨u,hc,_⟩=>by rw[hc];rfl) y J
 refine ⟨ad,g,cap,U,s,fun j=>⟨(n j).1,(n j).2.2⟩,fun i a O=>?_⟩
 obtain ⟨c,⟨u,rfl,D⟩,hx⟩:=Q i a O
 have:=hx 0 u rfl
 rw[Nat.mul_one,aY4] at this
 exact ⟨u,this,D⟩
theorem aM.open {A:Nat->Prop}{w:World}{k:Nat}{l:List (cF (St k))}{v:Value}(h:aM A w (k+1) l v) :
    ∃ad g cap,v=.slice ad l.length cap/\l.length≤maxLen/\(0<l.length->ad=some ⟨g,0,none⟩/\g<w.heap.size)/\∀(i:Nat) (s:cF (St k)),l[i]?=some s->∃ve vd vl p ay ar gy capy capr,Ns A w g i s ve vd vl p ay ar gy capy capr/\gP A w (aM A w k) s.regions (.slice ar s.regions.length capr):=by
 obtain ⟨xs,hr,hs⟩:=h
 obtain ⟨ad,g,cap,Y,J,I,U⟩:=wU.open (k:=9) (fun a c ⟨e,d,l,p,y,r,hc,_⟩=>by rw[hc];rfl) hr hs
 refine ⟨ad,g,cap,Y,J,fun n=>⟨(I n).1,(I n).2.2⟩,fun i s hi=>?_⟩
 obtain ⟨c,⟨e,d,l,p,y,r,rfl,X,q2,Z,D,q5,j⟩,hx⟩:=U i s hi
 obtain ⟨u,rfl⟩:=D.pt'
 obtain ⟨ay,gy,capy,rfl,O,y2,Q⟩:=q5.open
 obtain ⟨ar,gr,capr,rfl,_⟩:=j.len
 exact ⟨e,d,l,u,ay,ar,gy,capy,capr,⟨hx 0 _ rfl,hx 1 _ rfl,hx 2 _ rfl,hx 3 _ rfl,hx 4 _ rfl,hx 5 _ rfl,hx 6 _ rfl,hx 7 _ rfl,hx 8 _ rfl,X,q2,Z,D,O,y2,Q⟩,j⟩
section
variable {ρ:Type}
def I5 (s:cF ρ):Prop:=s.name.length≤maxLen/\mD s.enter/\mD s.during/\mD s.leave/\C0 s.rests/\(∀y∈s.ways,Va y)/\s.ways.length≤1000000
theorem xO {vs:List bQ}{ns:List bE}{b:Bool}{l:List Wy}(k:Nat) (c:∀j y,j<k->l[j]?=some y->nO vs ns b y=0):lF vs ns b l=lF vs ns b (l.drop k):=by
 induction k generalizing l with
 | zero=>rfl
 | succ k ih=>
  cases l with
  | nil=>rfl
  | cons a r=>
   rw[lF,if_neg (by simpa using c 0 a (by omega) rfl),List.drop_succ_cons]
   exact ih fun j n s h=>c (j+1) n (by omega) (by simpa using h)
theorem Oi {vs:List bQ}{ns:List bE}{b:Bool}{l:List Wy}{k:Nat}{a:Wy}(r:∀j y,j<k->l[j]?=some y->nO vs ns b y=0) (n:l[k]?=some a) (c:nO vs ns b a≠0):lF vs ns b l=nO vs ns b a:=by
 rw[xO k r]
 have:l.drop k=a::l.drop (k+1):=by
  obtain ⟨h,rfl⟩:=aO7.1 n
  exact aP4 h
 rw[this,lF,if_pos c]
theorem Jk {vs:List bQ}{ns:List bE}{b:Bool}{l:List Wy}(c:∀j y,j<l.length->l[j]?=some y->nO vs ns b y=0):lF vs ns b l=0:=by
 rw[xO l.length c,aR4];rfl
end
end
section
open Go.RowKit Px
theorem aS0 (a b c:Value) (w:World):(Instr.index 267 (.agg #[a,b,c]) (.int .i64 0)).run prog w=.ok a w:=by kernel_rfl
theorem aR9 (a b c:Value) (w:World):(Instr.index 267 (.agg #[a,b,c]) (.int .i64 1)).run prog w=.ok b w:=by kernel_rfl
theorem aR8 (a b c:Value) (w:World):(Instr.index 267 (.agg #[a,b,c]) (.int .i64 2)).run prog w=.ok c w:=by kernel_rfl
section
variable {ρ:Type}{ck pb mb nm gv:Nat}{adv:Option Addr}{capv:Nat}{vs:List bQ}
theorem Cf {w:World}{n:Nat}(h:kL w ck pb mb nm gv adv capv vs n) {s:cF ρ}{ns:List bE}{A:Nat->Prop}{ad:Option Addr}{g N cap i an ai bb:Nat}{ve vd vl:Value}{p ay ar:Option Addr}{gy ab af:Nat}(hi:i<N) (ha:0<N->ad=some ⟨g,0,none⟩)
    (u:Ns A w g i s ve vd vl p ay ar gy ab af) (hN:I5 s) (au:w.heap[an]?=some (.cells #[.map (some ai)] 177 (0,0))) (ax:iD w ai bb (jT ns)) :
 Calls prog 153 #[.pointer (some ⟨ck,0,none⟩),.slice ad N cap,.int .i64 (i:Int),.func (.func 112) #[] #[.pointer (some ⟨an,0,none⟩)]] w fun r w'=>r=.returned (.int .i64 ((jH vs ns i s:Nat):Int))/\Below w.heap.size w w':=by
 obtain ⟨n0,n1,n2,n3,n4,n5,n6⟩:=hN
 have hf:=nG (s:=s.name) au ax n0
 have bi:=Xo ad g N cap i hi ha
 have c0:=u.c0
 obtain ⟨I,hI⟩:∃I,Hid (eG ns s.name=I):=⟨_,rfl⟩
 rw[hI.out] at hf
 obtain ⟨S,hS⟩:∃S,sv s.name=S:=⟨_,rfl⟩
 rw[hS] at c0 hf
 have HM:Hid (∀w',Below w.heap.size w w'->Ns A w' g i s ve vd vl p ay ar gy ab af):=fun w' hb=>u.below hb
 have HC:Hid (∀w',Below w.heap.size w w'->kL w' ck pb mb nm gv adv capv vs n):=fun w' hb=>h.below hb
 have az:Hid (∀w',Below w.heap.size w w'->w'.heap[an]?=some (.cells #[.map (some ai)] 177 (0,0))/\iD w' ai bb (jT ns)):=fun w' hb=>⟨aD hb au,ax.below hb⟩
 have ae:Hid (mD s.enter/\mD s.during/\mD s.leave/\C0 s.rests/\∀y∈s.ways,Va y):=⟨n1,n2,n3,n4,n5⟩
 have c2:=u.c2
 have c7:=u.c7
 have c8:=u.c8
 have c3:=u.c3
 have c4:=u.c4
 have c5:=u.c5
 obtain ⟨xe,ye,ze,rfl⟩:=u.he.sl'
 obtain ⟨xd,yd,zd,rfl⟩:=u.hd.sl'
 obtain ⟨xl,yl,zl,rfl⟩:=u.hl.sl'
 clear h u au ax hS n0 n1 n2 n3 n4 n5
 by_cases hlt:I<(i:Int)
 ·have HE:Hid (jH vs ns i s=9):=by unfold Hid jH;rw[if_pos (by rw[hI.out];exact hlt)]
  go_enter Tryz.func153,Tryz.ntmps153
  go_wp2_with (refine hf.mono ?_;rintro e w' ⟨rfl,rfl⟩)
  go_ret
  exact ⟨by rw[HE.out];rfl,Below.refl _ _⟩
 ·obtain ⟨B1,ao⟩:∃B1,Hid ((s.last&&(decide (0<s.ways.length)||decide (0<s.regions.length)))=B1):=⟨_,rfl⟩
  have HE:Hid (jH vs ns i s=if B1 then 6 else if cY vs s.enter≠0 then cY vs s.enter else if cY vs s.during≠0 then cY vs s.during else if cY vs s.leave≠0 then cY vs s.leave else if dH (cG vs) s.rests then 5 else lF vs ns (decide (0<s.regions.length)) s.ways):=by
   unfold Hid jH;rw[if_neg (by rw[hI.out];exact hlt)];unfold zO;rw[ao.out]
  go_enter Tryz.func153,Tryz.ntmps153
  go_upto_region 4 with (refine hf.mono ?_;rintro e w' ⟨rfl,br⟩;obtain rfl:=br.symm)
  clear hf hlt
  go_cut [45] (fun s wx=>Hid (s=.bool B1/\wx=w))
  case first=>
   obtain ⟨la,ba⟩:∃la,Hid (s.last=la):=⟨_,rfl⟩
   rw[ba.out] at c2
   obtain ⟨Q,aa⟩:∃Q,Hid (s.ways.length=Q):=⟨_,rfl⟩
   obtain ⟨Y,ag⟩:∃Y,Hid (s.regions.length=Y):=⟨_,rfl⟩
   rw[aa.out] at c7
   rw[ag.out] at c8
   have O:=ao.out
   rw[ba.out,aa.out,ag.out] at O
   clear HE HM HC az ae
   cases la with
   | false=>
    have X:B1=false:=by rw[<-O];rfl
    subst X
    clear O
    go_wp2_with fail
    go_meet
    case rel=>exact ⟨rfl,rfl⟩
   | true=>
    by_cases h1:0<Q
    ·have X:B1=true:=by rw[<-O];simp[h1]
     subst X
     have bw:(0:Int)<(Q:Int):=by omega
     clear O
     go_wp2_with fail
     go_meet
     case rel=>exact ⟨rfl,rfl⟩
    ·have bw:¬(0:Int)<(Q:Int):=by omega
     by_cases h2:0<Y
     ·have X:B1=true:=by rw[<-O];simp[h2]
      subst X
      have bp:(0:Int)<(Y:Int):=by omega
      clear O
      go_wp2_with fail
      go_meet
      case rel=>exact ⟨rfl,rfl⟩
     ·have X:B1=false:=by rw[<-O];simp[h1,h2]
      subst X
      have bp:¬(0:Int)<(Y:Int):=by omega
      clear O
      go_wp2_with fail
      go_meet
      case rel=>exact ⟨rfl,rfl⟩
  case rest=>
   obtain ⟨hs,D⟩:=hcut.out
   subst hs
   subst D
   clear hcut c0 c2 c7 c8 ao bi
   cases B1 with
   | true=>
    rw[if_pos rfl] at HE
    go_wp2_with fail
    go_ret
    exact ⟨by rw[HE.out];rfl,Below.refl _ _⟩
   | false=>
    rw[if_neg (by simp)] at HE
    go_upto_region 6 with fail
    obtain ⟨W0,bn⟩:=gQx wc
    subst bn
    go_cut [58,59] (fun bq bj wx=>Hid (bq=.agg #[.slice xe ye ze,.slice xd yd zd,.slice xl yl zl]/\bj=.int .i64 0/\Below W0.heap.size W0 wx))
    case first=>
     go_quiet (fail)
     go_wp2_with fail
     go_meet
     case rel=>exact ⟨rfl,rfl,rfl,rfl,rfl,aO4 _,fun _ _=>rfl⟩
    case rest=>
     obtain ⟨ca,bm,bc⟩:=hcut.out
     subst ca
     subst bm
     have bv:Hid (Below W0.heap.size W0 wc):=bc
     clear hcut c3 c4 c5 bc
     go_wp2_with fail
     go_loopg [59] 3 (fun f i wr=>∃k:Nat,f=3-k/\k≤3/\i=.int .i64 (k:Int)/\Hid (Below W0.heap.size W0 wr/\(0<k->cY vs s.enter=0)/\(1<k->cY vs s.during=0)/\(2<k->cY vs s.leave=0)))
     case atStart=>exact ⟨0,by omega,by omega,rfl,bv.out,fun h=>absurd h (by omega),fun h=>absurd h (by omega),fun h=>absurd h (by omega)⟩
     case round=>
      obtain ⟨k,rfl,hk,rfl,hr⟩:=hrel
      have l:=hr.out.1
      have J:Hid (Below W0.heap.size W0 wr):=l
      have HZ:Hid ((0<k->cY vs s.enter=0)/\(1<k->cY vs s.during=0)/\(2<k->cY vs s.leave=0)):=hr.out.2
      clear hr
      have bu:k=0\/k=1\/k=2\/k=3:=by omega
      rcases bu with rfl|rfl|rfl|rfl
      ·rw[show ((0:Nat):Int)=0 from rfl]
       have hx:=aS0 (.slice xe ye ze) (.slice xd yd zd) (.slice xl yl zl)
       have c:=oI (HC.out wr l) (HM.out wr l).he ae.out.1
       by_cases hz:cY vs s.enter=0
       ·have H0:Hid (cY vs s.enter=0):=hz
        rw[hz] at c
        rw[show ((0:Nat):Int)=0 from rfl] at c
        clear hz
        go_wp2_with (refine c.mono ?_;rintro e w' ⟨rfl,D⟩)
        go_roundg (3-1)
        case measure=>omega
        case rel=>exact ⟨1,rfl,by omega,by go_num,aQ J.out D,fun _=>H0.out,fun h=>absurd h (by omega),fun h=>absurd h (by omega)⟩
       ·obtain ⟨M,u⟩:∃M,Hid (cY vs s.enter=M):=⟨_,rfl⟩
        rw[u.out] at c
        have HX:Hid (cY vs s.enter≠0):=hz
        have aw:¬(M:Int)=0:=by rw[u.out] at hz;omega
        have av:((M:Int)==0)=false:=by simp;omega
        clear hz
        go_wp2_with (refine c.mono ?_;rintro e w' ⟨rfl,D⟩)
        go_ret
        exact ⟨by rw[HE.out,if_pos HX.out,u.out];rfl,aQ J.out D⟩
      ·rw[show ((1:Nat):Int)=1 from rfl]
       have hx:=aR9 (.slice xe ye ze) (.slice xd yd zd) (.slice xl yl zl)
       have c:=oI (HC.out wr l) (HM.out wr l).hd ae.out.2.1
       by_cases hz:cY vs s.during=0
       ·have H1:Hid (cY vs s.during=0):=hz
        rw[hz] at c
        rw[show ((0:Nat):Int)=0 from rfl] at c
        clear hz
        go_wp2_with (refine c.mono ?_;rintro e w' ⟨rfl,D⟩)
        go_roundg (3-2)
        case measure=>omega
        case rel=>exact ⟨2,rfl,by omega,by go_num,aQ J.out D,fun h=>HZ.out.1 (by omega),fun _=>H1.out,fun h=>absurd h (by omega)⟩
       ·obtain ⟨M,u⟩:∃M,Hid (cY vs s.during=M):=⟨_,rfl⟩
        rw[u.out] at c
        have HX:Hid (cY vs s.during≠0):=hz
        have aw:¬(M:Int)=0:=by rw[u.out] at hz;omega
        have av:((M:Int)==0)=false:=by simp;omega
        clear hz
        go_wp2_with (refine c.mono ?_;rintro e w' ⟨rfl,D⟩)
        go_ret
        exact ⟨by rw[HE.out,if_neg (by rw[HZ.out.1 (by omega)];simp),if_pos HX.out,u.out];rfl,aQ J.out D⟩
      ·rw[show ((2:Nat):Int)=2 from rfl]
       have hx:=aR8 (.slice xe ye ze) (.slice xd yd zd) (.slice xl yl zl)
       have c:=oI (HC.out wr l) (HM.out wr l).hl ae.out.2.2.1
       by_cases hz:cY vs s.leave=0
       ·have H2:Hid (cY vs s.leave=0):=hz
        rw[hz] at c
        rw[show ((0:Nat):Int)=0 from rfl] at c
        clear hz
        go_wp2_with (refine c.mono ?_;rintro e w' ⟨rfl,D⟩)
        go_roundg (3-3)
        case measure=>omega
        case rel=>exact ⟨3,rfl,by omega,by go_num,aQ J.out D,fun h=>HZ.out.1 (by omega),fun h=>HZ.out.2.1 (by omega),fun _=>H2.out⟩
       ·obtain ⟨M,u⟩:∃M,Hid (cY vs s.leave=M):=⟨_,rfl⟩
        rw[u.out] at c
        have HX:Hid (cY vs s.leave≠0):=hz
        have aw:¬(M:Int)=0:=by rw[u.out] at hz;omega
        have av:((M:Int)==0)=false:=by simp;omega
        clear hz
        go_wp2_with (refine c.mono ?_;rintro e w' ⟨rfl,D⟩)
        go_ret
        exact ⟨by rw[HE.out,if_neg (by rw[HZ.out.1 (by omega)];simp),if_neg (by rw[HZ.out.2.1 (by omega)];simp),if_pos HX.out,u.out];rfl,aQ J.out D⟩
      ·rw[show ((3:Nat):Int)=3 from rfl]
       have U:Hid (jH vs ns i s=if dH (cG vs) s.rests then 5 else lF vs ns (decide (0<s.regions.length)) s.ways):=by
        rw[Hid,HE.out,if_neg (by rw[HZ.out.1 (by omega)];simp),if_neg (by rw[HZ.out.2.1 (by omega)];simp),if_neg (by rw[HZ.out.2.2 (by omega)];simp)]
       have c6:=(HM.out wr l).c6
       have aj:=pI (HC.out wr l) (HM.out wr l).hp ae.out.2.2.2.1
       obtain ⟨Z,hZ⟩:∃Z,Hid (dH (cG vs) s.rests=Z):=⟨_,rfl⟩
       rw[hZ.out] at U aj
       clear HZ HE
       cases Z with
       | true=>
        rw[if_pos rfl] at U
        go_wp2_with (refine aj.mono ?_;rintro e w' ⟨rfl,D⟩)
        go_ret
        exact ⟨by rw[U.out];rfl,aQ J.out D⟩
       | false=>
        rw[if_neg (by simp)] at U
        obtain ⟨Q,aa⟩:∃Q,Hid (s.ways.length=Q):=⟨_,rfl⟩
        obtain ⟨Y,ag⟩:∃Y,Hid (s.regions.length=Y):=⟨_,rfl⟩
        have HW:Hid (∀w',Below W0.heap.size W0 w'->w'.cell? ⟨g,i*9+7,none⟩=some (.slice ay Q ab)/\w'.cell? ⟨g,i*9+8,none⟩=some (.slice ar Y af)/\(0<Q->ay=some ⟨gy,0,none⟩)/\∀m y,s.ways[m]?=some y->∃p q,jE A w' gy (m*7) y p q):=fun w' hb=>by
         have:=HM.out w' hb
         rw[<-aa.out,<-ag.out]
         exact ⟨this.c7,this.c8,fun hp=>(this.hw.2.1 hp).1,this.hw.2.2⟩
        rw[ag.out] at U
        have cb:Q≤1000000:=by rw[<-aa.out];exact n6
        clear n6
        go_upto_region 15 with (refine aj.mono ?_;rintro e w' ⟨rfl,D⟩)
        have bg:Hid _:=aQ J.out D
        have d7:=(HW.out w' bg.out).1
        clear aj c6 D l J HM
        go_wp2_with fail
        clear d7
        have hR:(0<Y/\(0:Int)<(Y:Int))\/(¬0<Y/\¬(0:Int)<(Y:Int)):=by omega
        rcases hR with ⟨hR,ap⟩|⟨hR,ap⟩
        all_goals
         obtain ⟨ins,am⟩:∃ins,decide (0<Y)=ins:=⟨_,rfl⟩
         rw[am] at U
         go_loopg [80] Q (fun f i wr=>∃k:Nat,f=Q-k/\k≤Q/\i=.int .i64 (k:Int)/\Hid (Below W0.heap.size W0 wr/\∀j y,j<k->s.ways[j]?=some y->nO vs ns ins y=0))
         case atStart=>exact ⟨0,by omega,by omega,rfl,bg.out,fun j y hj=>absurd hj (by omega)⟩
         case round=>
          obtain ⟨k,rfl,hk,rfl,hr⟩:=hrel
          by_cases hlt:k<Q
          ·obtain ⟨y,ak⟩:∃y,Hid (s.ways[k]?=some y):=⟨s.ways[k]'(by rw[aa.out];exact hlt),by rw[Hid,aN4]⟩
           have l:=hr.out.1
           have ac:=l.drew
           obtain ⟨d7,d8,be,bo⟩:=HW.out wr l
           obtain ⟨-,-,-,al⟩:=HW.out wr.drew ac
           obtain ⟨p',q',m0,m1,m2,m3,m4,m5,m6,m7,m8⟩:=al k y ak.out
           have c:=Nf (HC.out wr.drew ac) ins m0 m1 m2 m3 m4 m5 m7 m8 (ae.out.2.2.2.2 y (aP1 ak.out)) (az.out wr.drew ac).1 (az.out wr.drew ac).2
           have bh:=wO ay gy Q ab k hlt be
           have J:Hid _:=ac
           have HZ:Hid _:=hr.out.2
           obtain ⟨M,u⟩:∃M,Hid (nO vs ns ins y=M):=⟨_,rfl⟩
           rw[u.out] at c
           have hinv:ins=decide ((0:Int)<(Y:Int)):=by rw[<-am];simp
           first
           | (rw[decide_eq_true ap] at hinv)
           | (rw[decide_eq_false ap] at hinv)
           rw[hinv] at c
           clear hr l ac be bo al m0 m1 m2 m3 m4 m5 m6 m7 m8 hinv
           go_upto_region 18 with fail
           go_cut [14] (fun bz wx=>Hid (bz=.int .i64 (M:Int)/\Below wr.drew.heap.size wr.drew wx))
           case first=>
            go_region_with (go_at_call 200;refine c.mono ?_;rintro e w' ⟨rfl,D⟩)
            all_goals
             go_wp2_with fail
             go_meet
             case rel=>exact ⟨rfl,D⟩
           case rest=>
            obtain ⟨bk,D⟩:=hcut.out
            subst bk
            have ah:Hid _:=aQ J.out D
            clear hcut D c d7 d8 bh
            by_cases hz:M=0
            ·subst hz
             rw[show ((0:Nat):Int)=0 from rfl]
             go_wp2_with fail
             go_roundg (Q-(k+1))
             case measure=>omega
             case rel=>
              refine ⟨k+1,rfl,by omega,by go_num,ah.out,fun j y' hj bf=>?_⟩
              by_cases e:j=k
              ·subst e
               have:=ak.out
               rw[bf] at this
               injection this with this
               subst this
               exact u.out
              ·exact HZ.out j y' (by omega) bf
            ·have aw:¬(M:Int)=0:=by omega
             have av:((M:Int)==0)=false:=by simp;omega
             have HX:Hid (lF vs ns ins s.ways=M):=by rw[Hid,Oi HZ.out ak.out (by rw[u.out];exact hz),u.out]
             go_wp2_with fail
             go_ret
             exact ⟨by rw[U.out,HX.out];rfl,ah.out⟩
          ·obtain rfl:k=Q:=by omega
           have HX:Hid (lF vs ns ins s.ways=0):=Jk (by rw[aa.out];exact hr.out.2)
           have ah:Hid _:=hr.out.1
           clear hr
           go_wp2_with fail
           go_ret
           exact ⟨by rw[U.out,HX.out];rfl,ah.out⟩
end
end
section
open Go.RowKit Px
theorem Ns.sts {ρ:Type}{A:Nat->Prop}{w:World}{g:Nat}{l:List (cF ρ)}(J:0<l.length->g<w.heap.size) (h:∀(i:Nat) (s:cF ρ),l[i]?=some s->∃ve vd vl p ay ar gy capy capr,Ns A w g i s ve vd vl p ay ar gy capy capr) (Z:∀s∈l,I5 s):mH w g l:=by
 intro i s n
 obtain ⟨ve,vd,vl,p,ay,ar,gy,capy,capr,j⟩:=h i s n
 have k:=Z s (aP1 n)
 refine ⟨J (by have:=(aO7.1 n).1;omega),j.c0,j.c1,k.1,k.2.2.2.2.2.2,ay,gy,capy,j.c7,j.hw.2.1,fun m y r=>?_⟩
 obtain ⟨X,q',O,U,D,I,Y,Q,u,m7,e⟩:=j.hw.2.2 m y r
 obtain ⟨a,b,c,rfl⟩:=e.sl'
 exact ⟨X,_,O,U,D,I,Y,Q,u,⟨a,b,c,rfl⟩,(k.2.2.2.2.2.1 y (aP1 r)).1⟩
theorem Bl {ρ:Type}{l:List (cF ρ)}{k:Nat}{s:cF ρ}(h:l[k]?=some s):jC (l.take (k+1))=jC (l.take k)+if s.first then 1 else 0:=by
 unfold jC
 rw[List.take_add_one,h]
 rw[List.filter_append,aO9]
 cases hf:s.first<;>simp[hf]
theorem Mq {ρ:Type}(l:List (cF ρ)):jC l≤l.length:=List.length_filter_le _ _
theorem qJ {ρ:Type}{w:World}{ad:Option Addr}{g n cap:Nat}{l:List (cF ρ)}(I:Hid (n=l.length)) (hm:n≤1000000) (J:0<n->ad=some ⟨g,0,none⟩) (O:mH w g l) :
 Calls prog 154 #[.slice ad n cap] w fun e w'=>e=.returned (.int .i64 ((dD l:Nat):Int))/\Below w.heap.size w w':=by
 have h:=Ai (cap:=cap) (l:=l) (oo:=eO (cQ l)) rfl I hm J O
 have HS:Hid _:=O
 have HA:Hid (0<n->ad=some ⟨g,0,none⟩):=J
 clear O J
 go_enter Tryz.func154,Tryz.ntmps154
 go_wp2_with fail
 go_loopg [3,9] n (fun f c i wr=>∃k:Nat,f=n-k/\k≤n/\c=.int .i64 ((jC (l.take k):Nat):Int)/\i=.int .i64 (k:Int)/\Hid (wr=w))
 case atStart=>exact ⟨0,by omega,by omega,rfl,rfl,rfl⟩
 case round=>
  obtain ⟨k,rfl,hk,rfl,rfl,U⟩:=hrel
  obtain rfl:=U.out
  clear U
  by_cases hlt:k<n
  ·obtain ⟨s,X⟩:∃s,Hid (l[k]?=some s):=⟨l[k]'(by rw[<-I.out];exact hlt),by rw[Hid,aN4]⟩
   obtain ⟨-,-,c1,-⟩:=HS.out k s X.out
   have Y:=Xo ad g n cap k hlt HA.out
   have hF:jC (l.take k)≤1000000:=by
    have:=Mq (l.take k)
    have Z:(l.take k).length≤k:=by rw[List.length_take];omega
    omega
   have D:=Bl X.out
   obtain ⟨F,r⟩:∃F,Hid (jC (l.take k)=F):=⟨_,rfl⟩
   rw[r.out] at D hF ⊢
   obtain ⟨b,hb⟩:∃b,Hid (s.first=b):=⟨_,rfl⟩
   rw[hb.out] at c1 D
   have y:Hid _:=D
   clear D
   cases b with
   | false=>
    go_wp2_with fail
    go_roundg (n-(k+1))
    case measure=>omega
    case rel=>exact ⟨k+1,rfl,by omega,by rw[y.out];rfl,by go_num,rfl⟩
   | true=>
    go_wp2_with fail
    go_roundg (n-(k+1))
    case measure=>omega
    case rel=>exact ⟨k+1,rfl,by omega,by rw[y.out];go_num,by go_num,rfl⟩
  ·obtain rfl:k=n:=by omega
   rw[show l.take k=l by rw[I.out];exact aX7]
   obtain ⟨F,r⟩:∃F,Hid (jC l=F):=⟨_,rfl⟩
   have j:Hid (dD l=if F=0 then 8 else if 1<F then 12 else if (eO (cQ l)).isNone then 11 else 0):=by unfold Hid dD;rw[r.out]
   rw[r.out]
   by_cases h0:F=0
   ·subst h0
    rw[if_pos rfl] at j
    rw[show ((0:Nat):Int)=0 from rfl]
    go_wp2_with fail
    go_ret
    exact ⟨by rw[j.out];rfl,Below.refl _ _⟩
   ·rw[if_neg h0] at j
    have h1:¬(F:Int)=0:=by omega
    have Z:((F:Int)==0)=false:=by simp;omega
    by_cases h3:1<F
    ·rw[if_pos h3] at j
     have h4:(1:Int)<(F:Int):=by omega
     go_wp2_with fail
     go_ret
     exact ⟨by rw[j.out];rfl,Below.refl _ _⟩
    ·rw[if_neg h3] at j
     have h4:¬(1:Int)<(F:Int):=by omega
     obtain ⟨oo,Q⟩:∃oo,Hid (eO (cQ l)=oo):=⟨_,rfl⟩
     rw[Q.out] at h j
     unfold Hd at h
     cases oo with
     | none=>
      have h:Calls prog 155 #[.slice ad k cap] wr fun e w'=>e=.returned (.tuple #[.slice none 0 0,.bool false])/\Below wr.heap.size wr w':=h.mono fun e w' ⟨hb,ho⟩=>by
       rcases ho with ⟨_,u⟩|⟨_,_,u,_⟩
       ·exact ⟨u,hb⟩
       ·simp at u
      go_wp2_with (refine h.mono ?_;rintro e w' ⟨rfl,hb⟩)
      go_ret
      exact ⟨by rw[j.out];rfl,hb⟩
     | some o=>
      have h:Calls prog 155 #[.slice ad k cap] wr fun e w'=>∃v,e=.returned (.tuple #[v,.bool true])/\Below wr.heap.size wr w':=h.mono fun e w' ⟨hb,ho⟩=>by
       rcases ho with ⟨u,_⟩|⟨_,v,_,u,_⟩
       ·simp at u
       ·exact ⟨v,u,hb⟩
      go_wp2_with (refine h.mono ?_;rintro e w' ⟨v,rfl,hb⟩)
      go_ret
      exact ⟨by rw[j.out];rfl,hb⟩
end
end Go.Proofs.YthieaobjdpfcoaaGreatDoor
