import Derived.Test.YthieaobjdpfcoaaGreatDoorVCe2
import Derived.ArgAppend
set_option maxRecDepth 100000
set_option maxHeartbeats 8000000
namespace Go.Proofs.YthieaobjdpfcoaaGreatDoor
section
open Go.RowKit Px
section
variable {A:Nat->Prop}{fb kb ck pb mb nm:Nat}{ns:List bE}
theorem Uj (hA:∀x,A x->x≠fb) {w w':World}(hF:Fr w.heap.size [fb] w w') {e:E}{v:Value}(h:jR A w e v):jR A w' e v:=
 h.carry (hF.keep fun x hx=>by simpa using hA x hx)
theorem lR {X:List Nat}{W wr w':World}(h:Fr W.heap.size X W wr) (k:Fr wr.heap.size X wr w'):Fr W.heap.size X W w':=h.trans (k.mono h.size (fun _ hx _=>hx))
theorem lM {w w':World}(h:Fr w.heap.size [fb] w w') {x:Nat}(hx:x≠fb) {o:Nat}{v:Value}(c:w.cell? ⟨x,o,none⟩=some v):w'.cell? ⟨x,o,none⟩=some v:=by
 rw[h.cell (p:=⟨x,o,none⟩) (aY3 w _ c) (by simpa using hx)];exact c
theorem Tr (hA:∀x,A x->x≠fb) (w:World) (b:Bool) {g:Nat}{c n:Int}(hc:c=4\/c=5) {S:Value}{l:E}{Y rv:Value}(D:A g) (hg:w.heap[g]?=some (.cells #[.int .i64 c,.int .i64 n,S,Y,rv] 307 (0,0))) (X:jR A w l Y) (ih:Zc A fb kb ck pb mb nm ns l) (h:gK w fb kb ck pb mb nm ns b):Calls Tryz.prog 228 #[.pointer (some ⟨g,0,none⟩),.agg #[lookV fb kb,lookV fb kb]] w (lK fb kb ck pb mb nm ns (b||dH ns l) w):=by
 obtain ⟨O,Q⟩:∃O,O=Obj.cells #[lookV fb kb,lookV fb kb] 301:=⟨_,rfl⟩
 have I:=aL w O
 have r:=I.drew
 have j:=ih (w.alloc O).drew Y b (X.carry fun x hx aa=>⟨hx,r.block x aa⟩) (h.below r)
 have ab:=aB h.found
 obtain ⟨p,rfl⟩:∃p,Y=.pointer p:=by
  cases l with
  | nil=>exact ⟨none,X⟩
  | node _ _ _ _ _=>obtain ⟨g',_,_,e,_⟩:=X;exact ⟨_,e⟩
 have k0:(w.alloc O).heap[w.heap.size]?=some (.cells #[lookV fb kb,lookV fb kb] 301 (0,0)):=by rw[aX,Q]
 have Z:=aF k0 0 (u:=lookV fb kb) rfl
 have e1:=aF k0 1 (u:=lookV fb kb) rfl
 have c0:=aF (eB (o':=O) hg) 0 (u:=.int .i64 c) rfl
 have c3:=aF (eB (o':=O) hg) 3 (u:=.pointer p) rfl
 have HP:Hid (∀k,Fr (w.alloc O).drew.heap.size [fb] (w.alloc O).drew k->k.cell? ⟨g,0,none⟩=some (.int .i64 c)/\k.cell? ⟨g,3,none⟩=some (.pointer p)/\k.cell? ⟨w.heap.size,0,none⟩=some (lookV fb kb)/\k.cell? ⟨w.heap.size,1,none⟩=some (lookV fb kb)):=fun k U=>
  ⟨lM U (hA g D) c0,lM U (hA g D) c3,lM U (by omega) Z,lM U (by omega) e1⟩
 obtain ⟨b',J⟩:∃b',b'=(b||dH ns l):=⟨_,rfl⟩
 rw[<-J] at j ⊢
 have HB:Hid _:=r
 have s:=Hw
 unfold lookV at Q j Z e1 HP ⊢
 unfold lK at j
 rw[Q] at j Z e1 c0 c3 HB HP
 clear h hg J I r k0 Q X ih ab
 rcases hc with rfl|rfl
 ·go_enter Tryz.func228,Tryz.ntmps228
  go_wp2_with fail
  go_region_held3 (fun k=>k.cell? ⟨g,0,none⟩=some (.int .i64 4)/\k.cell? ⟨g,3,none⟩=some (.pointer p)/\k.cell? ⟨w.heap.size,0,none⟩=some (.func (.func 227) #[] #[.pointer (some ⟨fb,0,none⟩),.pointer (some ⟨kb,0,none⟩)])/\k.cell? ⟨w.heap.size,1,none⟩=some (.func (.func 227) #[] #[.pointer (some ⟨fb,0,none⟩),.pointer (some ⟨kb,0,none⟩)])) (first|exact HP.out _ y.out.1|go_keep)
   (first
    | (go_at_call 228;refine j.mono ?_;rintro e w1 ⟨x,rfl,y⟩)
    | (go_at_call 123;refine (s _ _ _).mono ?_;rintro e w2 ⟨rfl,rfl⟩))
  all_goals
   go_wp2_with fail
   go_ret
   exact ⟨_,rfl,tP HB.out y.out.1,y.out.2⟩
 ·go_enter Tryz.func228,Tryz.ntmps228
  go_wp2_with fail
  go_region_held3 (fun k=>k.cell? ⟨g,0,none⟩=some (.int .i64 5)/\k.cell? ⟨g,3,none⟩=some (.pointer p)/\k.cell? ⟨w.heap.size,0,none⟩=some (.func (.func 227) #[] #[.pointer (some ⟨fb,0,none⟩),.pointer (some ⟨kb,0,none⟩)])/\k.cell? ⟨w.heap.size,1,none⟩=some (.func (.func 227) #[] #[.pointer (some ⟨fb,0,none⟩),.pointer (some ⟨kb,0,none⟩)])) (first|exact HP.out _ y.out.1|go_keep)
   (first
    | (go_at_call 228;refine j.mono ?_;rintro e w1 ⟨x,rfl,y⟩)
    | (go_at_call 123;refine (s _ _ _).mono ?_;rintro e w2 ⟨rfl,rfl⟩))
  all_goals
   go_wp2_with fail
   go_ret
   exact ⟨_,rfl,tP HB.out y.out.1,y.out.2⟩
theorem Tq (hA:∀x,A x->x≠fb) (w:World) (b:Bool) {g:Nat}{c n:Int}(hc:c≠1/\c≠2/\c≠3/\c≠4/\c≠5) {S:Value}{l r:E}{lv rv:Value}(J:A g) (hg:w.heap[g]?=some (.cells #[.int .i64 c,.int .i64 n,S,lv,rv] 307 (0,0))) (hl:jR A w l lv) (D:jR A w r rv) (af:Zc A fb kb ck pb mb nm ns l) (ah:Zc A fb kb ck pb mb nm ns r) (h:gK w fb kb ck pb mb nm ns b):Calls Tryz.prog 228 #[.pointer (some ⟨g,0,none⟩),.agg #[lookV fb kb,lookV fb kb]] w (lK fb kb ck pb mb nm ns (b||(dH ns l||dH ns r)) w):=by
 obtain ⟨O,hO⟩:∃O,O=Obj.cells #[lookV fb kb,lookV fb kb] 301:=⟨_,rfl⟩
 have ad:=aL w O
 have k:=ad.drew
 have j:=af (w.alloc O).drew lv b (hl.carry fun x hx I=>⟨hx,k.block x I⟩) (h.below k)
 have HR:Hid (jR A (w.alloc O).drew r rv/\_):=⟨D.carry fun x hx I=>⟨hx,k.block x I⟩,ah⟩
 have al:=aB h.found
 obtain ⟨p,rfl⟩:∃p,lv=.pointer p:=by
  cases l with
  | nil=>exact ⟨none,hl⟩
  | node _ _ _ _ _=>obtain ⟨g',_,_,e,_⟩:=hl;exact ⟨_,e⟩
 obtain ⟨q,rfl⟩:∃q,rv=.pointer q:=by
  cases r with
  | nil=>exact ⟨none,D⟩
  | node _ _ _ _ _=>obtain ⟨g',_,_,e,_⟩:=D;exact ⟨_,e⟩
 have k0:(w.alloc O).heap[w.heap.size]?=some (.cells #[lookV fb kb,lookV fb kb] 301 (0,0)):=by rw[aX,hO]
 have e0:=aF k0 0 (u:=lookV fb kb) rfl
 have e1:=aF k0 1 (u:=lookV fb kb) rfl
 have c0:=aF (eB (o':=O) hg) 0 (u:=.int .i64 c) rfl
 have c3:=aF (eB (o':=O) hg) 3 (u:=.pointer p) rfl
 have c4:=aF (eB (o':=O) hg) 4 (u:=.pointer q) rfl
 have HP:Hid (∀s,Fr (w.alloc O).drew.heap.size [fb] (w.alloc O).drew s->s.cell? ⟨g,0,none⟩=some (.int .i64 c)/\s.cell? ⟨g,4,none⟩=some (.pointer q)/\s.cell? ⟨w.heap.size,0,none⟩=some (lookV fb kb)/\s.cell? ⟨w.heap.size,1,none⟩=some (lookV fb kb)):=fun s hF=>
  ⟨lM hF (hA g J) c0,lM hF (hA g J) c4,lM hF (by omega) e0,lM hF (by omega) e1⟩
 obtain ⟨Z,X⟩:∃Z,Z=(b||dH ns l):=⟨_,rfl⟩
 obtain ⟨b2,U⟩:∃b2,b2=(b||(dH ns l||dH ns r)):=⟨_,rfl⟩
 have an:Hid (b2=(Z||dH ns r)):=by rw[Hid,U,X,Bool.or_assoc]
 rw[<-X] at j
 rw[<-U]
 have HB:Hid _:=k
 have am:Hid _:=hA
 obtain ⟨ab,ae,aj,aa,ag⟩:=hc
 have t1:(c==1)=false:=by simpa using ab
 have t2:(c==2)=false:=by simpa using ae
 have t3:(c==3)=false:=by simpa using aj
 have t4:(c==4)=false:=by simpa using aa
 have t5:(c==5)=false:=by simpa using ag
 have ai:=Hk
 unfold lK at j
 unfold lookV at hO j e0 e1 HP ⊢
 rw[hO] at j e0 e1 c0 c3 HB HP HR
 clear h hg X U ad k k0 hO hl D af ah al c4 hA J
 go_enter Tryz.func228,Tryz.ntmps228
 go_upto_region 13 with fail
 clear t1 t2 t3 t4 t5 ab ae aj aa ag
 go_cut [5] (fun s5 Y=>∃x,s5=.int .i64 x/\Hid (Fr (w.alloc (.cells #[.func (.func 227) #[] #[.pointer (some ⟨fb,0,none⟩),.pointer (some ⟨kb,0,none⟩)],.func (.func 227) #[] #[.pointer (some ⟨fb,0,none⟩),.pointer (some ⟨kb,0,none⟩)]] 301)).drew.heap.size [fb] (w.alloc (.cells #[.func (.func 227) #[] #[.pointer (some ⟨fb,0,none⟩),.pointer (some ⟨kb,0,none⟩)],.func (.func 227) #[] #[.pointer (some ⟨fb,0,none⟩),.pointer (some ⟨kb,0,none⟩)]] 301)).drew Y/\gK Y fb kb ck pb mb nm ns Z))
 case first=>
  go_region_with (refine j.mono ?_;rintro e s ⟨x,rfl,D⟩)
  all_goals
   go_wp2_with fail
   go_meet
   case rel=>exact ⟨x,rfl,D.out⟩
 case rest=>
  obtain ⟨x,rfl,hx⟩:=hcut
  clear j e0 e1 c0 c3
  obtain ⟨d0,d4,f0,f1⟩:=HP.out wc hx.out.1
  have Q:=hx.out.1.drew
  have j:=HR.out.2 wc.drew (.pointer q) Z (Uj am.out Q HR.out.1) (hx.out.2.below ((Below.refl _ _).drew))
  rw[<-an.out] at j
  unfold lK at j
  unfold lookV at j
  have ak:Hid _:=Q
  clear Q
  go_upto_region 14 with fail
  go_cut [6] (fun s6 Y=>∃x,s6=.int .i64 x/\Hid (Fr w.heap.size [fb] w Y/\gK Y fb kb ck pb mb nm ns b2/\Y.cell? ⟨g,0,none⟩=some (.int .i64 c)))
  case first=>
   go_region_with (refine j.mono ?_;rintro e s ⟨y,rfl,D⟩)
   all_goals
    go_wp2_with fail
    go_meet
    case rel=>
     have ac:=lR ak.out D.out.1
     exact ⟨y,rfl,tP HB.out ac,D.out.2,(HP.out _ ac).1⟩
  case rest=>
   obtain ⟨y,rfl,hy⟩:=hcut
   have g0:=hy.out.2.2
   clear j d0 d4 f0 f1
   go_wp2_with (refine (ai _ _ _ _).mono ?_;rintro e s ⟨rfl,rfl⟩)
   go_ret
   exact ⟨_,rfl,hy.out.1.alloc hy.out.1.size _,hy.out.2.1.below (aL _ _)⟩
theorem Tu (hA:∀x,A x->x≠fb):∀e,C0 e->Zc A fb kb ck pb mb nm ns e:=by
 intro e
 induction e with
 | nil=>
  intro _ w v b k h
  obtain rfl:v=.pointer none:=k
  rw[dH,Bool.or_false]
  exact Tt w b h
 | node b0 o a l r ihl ihr=>
  intro y w v b k h
  obtain ⟨D,s,n3⟩:=y
  obtain ⟨g,I,rv,rfl,c,j,n,u⟩:=k
  rw[dH]
  by_cases c1:a.code=1
  ·rw[if_pos c1,Bool.or_false]
   rw[c1] at j
   exact Ts w b j h
  ·rw[if_neg c1]
   by_cases c2:a.code=2\/a.code=3
   ·rw[if_pos c2]
    exact Mv w b (by omega) D j h
   ·rw[if_neg c2]
    by_cases c4:a.code=4\/a.code=5
    ·rw[if_pos c4]
     exact Tr hA w b (by omega) c j n (ihl s) h
    ·rw[if_neg c4]
     exact Tq hA w b ⟨by omega,by omega,by omega,by omega,by omega⟩ c j n u (ihl s) (ihr n3) h
end
end
section
open Go.RowKit Px
structure kL (w:World) (ck pb mb nm gv:Nat) (adv:Option Addr) (capv:Nat) (vs:List bQ) (n:Nat):Prop where
 box:w.heap[ck]?=some (.cells #[.slice adv vs.length capv,.func (.func 112) #[] #[.pointer (some ⟨pb,0,none⟩)],.int .i64 (n:Int)] 129 (0,0))
 hpb:w.heap[pb]?=some (.cells #[.map (some mb)] 177 (0,0))
 hmb:iD w mb nm (jT (cG vs))
 hv:0<vs.length->adv=some ⟨gv,0,none⟩/\gv<w.heap.size
 hk:∀i d,vs[i]?=some d->w.cell? ⟨gv,i*3,none⟩=some (.int .i64 (d.kind:Int))
 ne:ck≠pb/\ck≠mb/\(0<vs.length->ck≠gv)
section
variable {ck pb mb nm gv:Nat}{adv:Option Addr}{capv:Nat}{vs:List bQ}
theorem kL.below {w w':World}{n:Nat}(h:kL w ck pb mb nm gv adv capv vs n) (hb:Below w.heap.size w w'):kL w' ck pb mb nm gv adv capv vs n:=
 ⟨aD hb h.box,aD hb h.hpb,h.hmb.below hb,fun hp=>⟨(h.hv hp).1,aO2 (h.hv hp).2 hb.size⟩,fun i d hi=>aN hb (h.hk i d hi),h.ne⟩
theorem pI {w:World}{n:Nat}(h:kL w ck pb mb nm gv adv capv vs n) {e:E}{v:Value}{A:Nat->Prop}(y:jR A w e v) (X:C0 e) :
    Calls Tryz.prog 199 #[.pointer (some ⟨ck,0,none⟩),v] w fun r w'=>r=.returned (.bool (dH (cG vs) e))/\Below w.heap.size w w':=by
 have U:∀(fn:Fn) (first cap:Array Value) (w:World),(Instr.makeFunc fn first cap).run Tryz.prog w=.ok (.func fn first cap) w:=fun _ _ _ _=>rfl
 obtain ⟨p,rfl⟩:∃p,v=.pointer p:=by
  cases e with
  | nil=>exact ⟨none,y⟩
  | node _ _ _ _ _=>obtain ⟨g',_,_,e,_⟩:=y;exact ⟨_,e⟩
 have s:jR (· < w.heap.size) w e (.pointer p):=y.carry fun x _ k=>⟨k,rfl⟩
 obtain ⟨W,l⟩:∃W,W=(w.alloc (.cells #[.pointer (some ⟨ck,0,none⟩)] 178)).alloc (.cells #[.bool false] 4):=⟨_,rfl⟩
 have j:Below w.heap.size w W:=by rw[l];exact ((Below.refl _ _).alloc (aN4 _) _).alloc (by simp) _
 have O:W.heap[w.heap.size]?=some (.cells #[.pointer (some ⟨ck,0,none⟩)] 178 (0,0)):=by rw[l];exact eB (aX w _)
 have I:W.heap[w.heap.size+1]?=some (.cells #[.bool false] 4 (0,0)):=by
  rw[l]
  have e:w.heap.size+1=(w.alloc (.cells #[.pointer (some ⟨ck,0,none⟩)] 178)).heap.size:=by simp
  rw[e];exact aX _ _
 have Y:=aB h.box
 have l2:=aB h.hpb
 have Z:=h.hmb.lt
 have Q:gK W (w.heap.size+1) w.heap.size ck pb mb nm (cG vs) false:=⟨I,aF O 0 rfl,aN j (aF h.box 1 rfl),aD j h.hpb,h.hmb.below j,by omega⟩
 have c:=Tu (A:=(· < w.heap.size)) (fb:=w.heap.size+1) (kb:=w.heap.size) (fun x hx e=>by have:x<w.heap.size:=hx;omega) e X W (.pointer p) false (s.carry fun x hx k=>⟨hx,j.block x hx⟩) Q
 rw[Bool.false_or] at c
 unfold lK at c
 unfold lookV at c
 have D:Hid _:=j
 rw[l] at c D
 clear h y s l j O I Y l2 Z Q
 go_enter Tryz.func199,Tryz.ntmps199
 go_wp2_with (refine c.mono ?_;rintro e w' ⟨x,rfl,J⟩;have cf:=aF J.out.2.found 0 (u:=.bool (dH (cG vs) e)) rfl)
 go_ret
 refine ⟨rfl,D.out.trans ?_⟩
 exact (J.out.1.mono D.out.size (X':=[]) (fun x hx hl=>by simp at hx;omega)).below
end
end
section
open Go.RowKit Px
def mD (l:List iY):Prop:=∀a∈l,a.name.length≤maxLen/\C0 a.e
theorem yE {vs:List bQ}{l:List iY}(k:Nat) (c:∀j a,j<k->l[j]?=some a->nD vs a=0):cY vs l=cY vs (l.drop k):=by
 induction k generalizing l with
 | zero=>rfl
 | succ k ih=>
  cases l with
  | nil=>rfl
  | cons a r=>
   rw[cY,if_neg (by simpa using c 0 a (by omega) rfl),List.drop_succ_cons]
   exact ih fun j n s h=>c (j+1) n (by omega) (by simpa using h)
theorem yF {vs:List bQ}{l:List iY}{k:Nat}{a:iY}(r:∀j a,j<k->l[j]?=some a->nD vs a=0) (n:l[k]?=some a) (c:nD vs a≠0):cY vs l=nD vs a:=by
 rw[yE k r]
 have:l.drop k=a::l.drop (k+1):=by
  obtain ⟨h,rfl⟩:=aO5.1 n
  exact aO9 h
 rw[this,cY,if_pos c]
theorem Ko {vs:List bQ}{l:List iY}(c:∀j a,j<l.length->l[j]?=some a->nD vs a=0):cY vs l=0:=by
 rw[yE l.length c,aP6];rfl
theorem Mx {vs:List bQ}{s:bE}{t:Nat}(h:jT (cG vs) s=some t):∃d,vs[t]?=some d/\Oq vs s=d.kind:=by
 have c:=(tQ h).1
 rw[cG,List.length_map] at c
 refine ⟨vs[t],aN3 c,?_⟩
 unfold Oq eG
 rw[h]
 simp[List.getD_eq_getElem?_getD,List.getElem?_eq_getElem c]
section
variable {ck pb mb nm gv:Nat}{adv:Option Addr}{capv:Nat}{vs:List bQ}
theorem Wh {w:World}{n:Nat}(h:kL w ck pb mb nm gv adv capv vs n) {l:List iY}{ad:Option Addr}{g N cap:Nat}{A:Nat->Prop}(hN:Hid (N=l.length)) (hm:N≤maxLen) (ha:0<N->ad=some ⟨g,0,none⟩/\g<w.heap.size) (ac:mD l)
    (R:Hid (∀(i:Nat) (a:iY),l[i]?=some a->∃p,w.cell? ⟨g,i*2,none⟩=some (sv a.name)/\w.cell? ⟨g,i*2+1,none⟩=some (.pointer p)/\jR A w a.e (.pointer p))) :
    Calls Tryz.prog 198 #[.pointer (some ⟨ck,0,none⟩),.slice ad N cap] w fun r w'=>r=.returned (.int .i64 ((cY vs l:Nat):Int))/\Below w.heap.size w w':=by
 have ak:(N:Int)≤9223372036854775807:=by unfold maxLen at hm;omega
 have HC:Hid (kL w ck pb mb nm gv adv capv vs n):=h
 have HA:Hid (0<N->ad=some ⟨g,0,none⟩/\g<w.heap.size):=ha
 have ai:Hid (mD l):=ac
 clear h ha ac hm
 go_enter Tryz.func198,Tryz.ntmps198
 go_wp2_with fail
 go_loopg [10] N (fun f i wr=>∃k:Nat,f=N-k/\k≤N/\i=.int .i64 (k:Int)/\Hid (Below w.heap.size w wr/\∀j a,j<k->l[j]?=some a->nD vs a=0))
 case atStart=>exact ⟨0,by omega,by omega,rfl,Below.refl _ _,fun j a hj=>absurd hj (by omega)⟩
 case round=>
  obtain ⟨k,rfl,hk,rfl,hr⟩:=hrel
  by_cases U:k<N
  ·obtain ⟨a,c⟩:∃a,Hid (l[k]?=some a):=⟨l[k]'(by rw[<-hN.out];exact U),by rw[Hid,aN3]⟩
   obtain ⟨p,x0,x1,hp⟩:=R.out k a c.out
   have af:=ixS ad g N cap k U (fun h=>(HA.out h).1)
   have y0:=aN hr.out.1 x0
   have y1:=aN hr.out.1 x1
   obtain ⟨LO,Y⟩:∃LO,LO=Obj.cells #[sv a.name,.pointer p] 297:=⟨_,rfl⟩
   have O:Below w.heap.size w (wr.alloc LO):=aQ hr.out.1 (aL wr LO)
   have hC:=HC.out.below O.drew
   have X:Hid (kL (wr.alloc LO).drew ck pb mb nm gv adv capv vs n):=hC
   obtain ⟨n1,n2⟩:=ai.out a (aO7 c.out)
   have hf:=nG (s:=a.name) hC.hpb hC.hmb n1
   have y:=pI hC (hp.carry fun x hx U=>⟨hx,O.drew.block x U⟩) n2
   have c1:(wr.alloc LO).drew.cell? ⟨ck,1,none⟩=some (.func (.func 112) #[] #[.pointer (some ⟨pb,0,none⟩)]):=aF hC.box 1 rfl
   have D:Hid (Below w.heap.size w (wr.alloc LO).drew):=O.drew
   have k0:(wr.alloc LO).heap[wr.heap.size]?=some (.cells #[sv a.name,.pointer p] 297 (0,0)):=by rw[aX,Y]
   have l0:=aF k0 0 (u:=sv a.name) rfl
   have l1:=aF k0 1 (u:=.pointer p) rfl
   obtain ⟨S,hS⟩:∃S,sv a.name=.string S:=⟨_,rfl⟩
   rw[hS] at y0 hf Y l0
   obtain ⟨b,hb⟩:∃b,Hid (dH (cG vs) a.e=b):=⟨_,rfl⟩
   rw[hb.out] at y
   have HZ:Hid (∀j a,j<k->l[j]?=some a->nD vs a=0):=hr.out.2
   rw[Y] at D hf y X c1 l0 l1
   clear O hC x0 x1 hp n1 n2 Y hS hr k0
   obtain ⟨I,hI⟩:∃I,Hid (I=eG (cG vs) a.name):=⟨_,rfl⟩
   rw[<-hI.out] at hf
   go_upto_region 4 with fail
   go_cut [7] (fun s7 wx=>Hid (s7=.int .i64 I/\wx=(wr.alloc (.cells #[.string S,.pointer p] 297)).drew))
   case first=>
    go_region_with (refine hf.mono ?_;rintro e w' ⟨rfl,rfl⟩)
    all_goals
     go_wp2_with fail
     go_meet
     case rel=>exact ⟨rfl,rfl⟩
   case rest=>
    obtain ⟨ah,ag⟩:=hcut.out
    subst ah
    subst ag
    clear hcut y0 y1 af hf
    cases hfn:jT (cG vs) a.name with
    | none=>
     have e:I=-1:=by rw[hI.out];unfold eG;rw[hfn]
     subst e
     have Z:Hid (cY vs l=5):=by
      have:nD vs a=5:=by unfold nD;rw[hfn];rfl
      rw[Hid,yF HZ.out c.out (by rw[this];simp),this]
     clear hfn y
     go_wp2_with fail
     go_ret
     exact ⟨by rw[Z.out];rfl,D.out⟩
    | some t=>
     have e:I=(t:Int):=by rw[hI.out];unfold eG;rw[hfn]
     subst e
     have an:¬(t:Int)<0:=by omega
     cases b with
     | true=>
      have Z:Hid (cY vs l=5):=by
       have:nD vs a=5:=by unfold nD;rw[hfn,hb.out];rfl
       rw[Hid,yF HZ.out c.out (by rw[this];simp),this]
      clear hfn
      go_wp2_with (refine y.mono ?_;rintro e w' ⟨rfl,J⟩)
      go_ret
      exact ⟨by rw[Z.out];rfl,aQ D.out J⟩
     | false=>
      obtain ⟨d,hd,Q⟩:=Mx hfn
      have aa:=(aO5.1 hd).1
      have ab:Hid (∀w',Below (wr.alloc (.cells #[.string S,.pointer p] 297)).drew.heap.size (wr.alloc (.cells #[.string S,.pointer p] 297)).drew w'->w'.cell? ⟨ck,0,none⟩=some (.slice adv vs.length capv)/\w'.cell? ⟨gv,t*3,none⟩=some (.int .i64 (d.kind:Int))):=fun w' J=>
       ⟨aN J (aF X.out.box 0 rfl),aN J (X.out.hk t d hd)⟩
      have aj:=ixV adv gv vs.length capv t aa (fun h=>(X.out.hv h).1)
      by_cases hk1:d.kind=1
      ·have Z:Hid (cY vs l=1):=by
        have:nD vs a=1:=by unfold nD;rw[hfn,hb.out,Q,hk1];rfl
        rw[Hid,yF HZ.out c.out (by rw[this];simp),this]
       rw[hk1] at ab
       clear hfn hd Q aa hk1
       go_wp2_with (refine y.mono ?_;rintro e w' ⟨rfl,J⟩;obtain ⟨d0,d1⟩:=ab.out w' J)
       go_ret
       exact ⟨by rw[Z.out];rfl,aQ D.out J⟩
      ·have Z:Hid (nD vs a=0):=by
        unfold nD;rw[hfn,hb.out,Q,if_neg hk1];rfl
       have am:¬((d.kind:Nat):Int)=1:=by omega
       have al:(((d.kind:Nat):Int)==1)=false:=by simp;omega
       clear hfn hd Q aa hk1
       go_wp2_with (refine y.mono ?_;rintro e w' ⟨rfl,J⟩;obtain ⟨d0,d1⟩:=ab.out w' J)
       go_roundg (N-(k+1))
       case measure=>omega
       case rel=>
        refine ⟨k+1,rfl,by omega,by go_num,aQ D.out J,fun j a' hj ae=>?_⟩
        by_cases e:j=k
        ·subst e
         have:=c.out
         rw[ae] at this
         injection this with this
         subst this
         exact Z.out
        ·exact HZ.out j a' (by omega) ae
  ·obtain rfl:k=N:=by omega
   have Z:Hid (cY vs l=0):=Ko (by rw[<-hN.out];exact hr.out.2)
   have HB:Hid (Below w.heap.size w wr):=hr.out.1
   clear hr
   go_wp2_with fail
   go_ret
   exact ⟨by rw[Z.out];rfl,HB.out⟩
end
end
section
open Go.RowKit Px
theorem jR.pt' {A:Nat->Prop}{w:World}{e:E}{v:Value}(h:jR A w e v):∃u,v=.pointer u:=by
 cases e with
 | nil=>exact ⟨none,h⟩
 | node _ _ _ _ _=>obtain ⟨c,_,_,e,_⟩:=h;exact ⟨_,e⟩
theorem cJ.open {A:Nat->Prop}{w:World}{l:List iY}{v:Value}(h:cJ A w l v) :
    ∃ad g cap,v=.slice ad l.length cap/\l.length≤maxLen/\(0<l.length->ad=some ⟨g,0,none⟩/\g<w.heap.size)/\∀(i:Nat) (a:iY),l[i]?=some a->∃p,w.cell? ⟨g,i*2,none⟩=some (sv a.name)/\w.cell? ⟨g,i*2+1,none⟩=some (.pointer p)/\jR A w a.e (.pointer p):=by
 obtain ⟨O,s,y⟩:=h
 obtain ⟨ad,g,cap,J,r,n,I⟩:=wU.open (k:=2) (fun a c ⟨p,hc,_⟩=>by rw[hc];rfl) s y
 refine ⟨ad,g,cap,J,r,fun j=>⟨(n j).1,(n j).2.2⟩,fun i a D=>?_⟩
 obtain ⟨c,⟨p,rfl,j⟩,hx⟩:=I i a D
 obtain ⟨u,rfl⟩:=j.pt'
 exact ⟨u,hx 0 _ rfl,hx 1 _ rfl,j⟩
section
variable {ck pb mb nm gv:Nat}{adv:Option Addr}{capv:Nat}{vs:List bQ}
theorem oI {w:World}{n:Nat}(h:kL w ck pb mb nm gv adv capv vs n) {l:List iY}{v:Value}{A:Nat->Prop}(s:cJ A w l v) (c:mD l) :
    Calls Tryz.prog 198 #[.pointer (some ⟨ck,0,none⟩),v] w fun r w'=>r=.returned (.int .i64 ((cY vs l:Nat):Int))/\Below w.heap.size w w':=by
 obtain ⟨y,g,cap,rfl,j,u,k⟩:=s.open
 exact Wh h rfl j u c k
def Va (y:Wy):Prop:=y.to.length≤maxLen/\C0 y.cond/\mD y.sets
theorem Nf {w:World}{n:Nat}(h:kL w ck pb mb nm gv adv capv vs n) {y:Wy}{ns:List bE}{gy o J U ad:Nat}{p:Option Addr}{q:Value}{A:Nat->Prop}(inside:Bool)
    (c0:w.cell? ⟨gy,o,none⟩=some (.int .i64 (y.kind:Int))) (c1:w.cell? ⟨gy,o+1,none⟩=some (.bool y.now)) (c2:w.cell? ⟨gy,o+2,none⟩=some (.pointer p)) (c3:w.cell? ⟨gy,o+3,none⟩=some (.int .i64 (y.times:Int))) (c4:w.cell? ⟨gy,o+4,none⟩=some q) (c5:w.cell? ⟨gy,o+5,none⟩=some (sv y.to))
    (he:jR A w y.cond (.pointer p)) (hs:cJ A w y.sets q) (hN:Va y)
    (Q:w.heap[J]?=some (.cells #[.map (some U)] 177 (0,0))) (O:iD w U ad (jT ns)) :
    Calls Tryz.prog 200 #[.pointer (some ⟨ck,0,none⟩),.pointer (some ⟨gy,o,none⟩),.bool inside,.func (.func 112) #[] #[.pointer (some ⟨J,0,none⟩)]] w fun r w'=>r=.returned (.int .i64 ((nO vs ns inside y:Nat):Int))/\Below w.heap.size w w':=by
 obtain ⟨n1,n2,n3⟩:=hN
 have I:=nG (s:=y.to) Q O n1
 have l:=pI h he n2
 have X:Hid (∀w',Below w.heap.size w w'->Calls Tryz.prog 198 #[.pointer (some ⟨ck,0,none⟩),q] w' fun r Y=>r=.returned (.int .i64 ((cY vs y.sets:Nat):Int))/\Below w'.heap.size w' Y):=fun w' hb=>
  oI (h.below hb) (hs.carry fun x hx ab=>⟨hx,hb.block x ab⟩) n3
 have af:Hid (∀w',Below w.heap.size w w'->w'.cell? ⟨gy,o+4,none⟩=some q):=fun w' hb=>aN hb c4
 clear h he hs Q O n1 n2 n3 c4
 obtain ⟨S,hS⟩:∃S,sv y.to=S:=⟨_,rfl⟩
 rw[hS] at c5 I
 clear hS
 obtain ⟨B,hB⟩:∃B,Hid ((((decide (y.kind=2) && !inside)||(y.now&&decide (1<y.times))))=B):=⟨_,rfl⟩
 obtain ⟨Z,hZ⟩:∃Z,Hid (dH (cG vs) y.cond=Z):=⟨_,rfl⟩
 rw[hZ.out] at l
 cases hfn:jT ns y.to with
 | none=>
  have e:eG ns y.to=-1:=by unfold eG;rw[hfn]
  rw[e] at I
  have k:Hid (nO vs ns inside y=7):=by unfold Hid nO;rw[hfn];rfl
  clear e hfn l
  go_enter Tryz.func200,Tryz.ntmps200
  go_wp2_with (refine I.mono ?_;rintro e w' ⟨rfl,rfl⟩)
  go_ret
  exact ⟨by rw[k.out];rfl,Below.refl _ _⟩
 | some t=>
  have e:eG ns y.to=(t:Int):=by unfold eG;rw[hfn]
  rw[e] at I
  have ae:¬(t:Int)<0:=by omega
  have k:Hid (nO vs ns inside y=if B then 6 else if Z then 5 else cY vs y.sets):=by unfold Hid nO;rw[hfn,hB.out,hZ.out];rfl
  clear e hfn
  go_enter Tryz.func200,Tryz.ntmps200
  go_upto_region 3 with (refine I.mono ?_;rintro e w' ⟨rfl,aa⟩;obtain rfl:=aa.symm)
  clear I ae
  go_cut [37] (fun s wx=>Hid (s=.bool B/\wx=w))
  case first=>
   obtain ⟨nw,j⟩:∃nw,Hid (y.now=nw):=⟨_,rfl⟩
   rw[j.out] at c1
   by_cases hk:y.kind=2
   ·rw[hk] at c0
    cases inside with
    | false=>
     have c:B=true:=by rw[<-hB.out,hk];rfl
     subst c
     go_wp2_with fail
     go_meet
     case rel=>exact ⟨rfl,rfl⟩
    | true=>
     cases nw with
     | false=>
      have c:B=false:=by rw[<-hB.out,hk,j.out];rfl
      subst c
      go_wp2_with fail
      go_meet
      case rel=>exact ⟨rfl,rfl⟩
     | true=>
      by_cases ht:1<y.times
      ·have c:B=true:=by rw[<-hB.out,hk,j.out];simp[ht]
       subst c
       have u:(1:Int)<(y.times:Int):=by omega
       clear ht
       go_wp2_with fail
       go_meet
       case rel=>exact ⟨rfl,rfl⟩
      ·have c:B=false:=by rw[<-hB.out,hk,j.out];simp[ht]
       subst c
       have u:¬(1:Int)<(y.times:Int):=by omega
       clear ht
       go_wp2_with fail
       go_meet
       case rel=>exact ⟨rfl,rfl⟩
   ·have ag:¬(y.kind:Int)=2:=by omega
    have ai:((y.kind:Int)==2)=false:=by simp;omega
    cases nw with
    | false=>
     have c:B=false:=by rw[<-hB.out,j.out];simp[hk]
     subst c
     go_wp2_with fail
     go_meet
     case rel=>exact ⟨rfl,rfl⟩
    | true=>
     by_cases ht:1<y.times
     ·have c:B=true:=by rw[<-hB.out,j.out];simp[ht]
      subst c
      have u:(1:Int)<(y.times:Int):=by omega
      clear ht
      go_wp2_with fail
      go_meet
      case rel=>exact ⟨rfl,rfl⟩
     ·have c:B=false:=by rw[<-hB.out,j.out];simp[ht,hk]
      subst c
      have u:¬(1:Int)<(y.times:Int):=by omega
      clear ht
      go_wp2_with fail
      go_meet
      case rel=>exact ⟨rfl,rfl⟩
  case rest=>
   obtain ⟨hs,D⟩:=hcut.out
   subst hs
   subst D
   clear hcut c0 c1 c3 c5 hB hZ
   cases B with
   | true=>
    rw[if_pos rfl] at k
    go_wp2_with fail
    go_ret
    exact ⟨by rw[k.out];rfl,Below.refl _ _⟩
   | false=>
    rw[if_neg (by simp)] at k
    cases Z with
    | true=>
     rw[if_pos rfl] at k
     go_wp2_with (refine l.mono ?_;rintro e w' ⟨rfl,D⟩)
     go_ret
     exact ⟨by rw[k.out];rfl,D⟩
    | false=>
     rw[if_neg (by simp)] at k
     obtain ⟨M,hM⟩:∃M,Hid (cY vs y.sets=M):=⟨_,rfl⟩
     rw[hM.out] at k X
     go_wp2_with (first
      | (go_at_call 199;refine l.mono ?_;rintro e w' ⟨rfl,D⟩;have ah:=af.out w' D)
      | (go_at_call 198;refine (X.out w' D).mono ?_;rintro e Y ⟨rfl,ac⟩))
     go_ret
     exact ⟨by rw[k.out];rfl,aQ D ac⟩
end
end
section
open Go.RowKit Px
def Zu (A:Nat->Prop) (w:World) (v:Value) (zs:List Nat):Prop:=∃ad g cap,v=.slice ad zs.length cap/\(0<zs.length->ad=some ⟨g,0,none⟩/\A g/\g<w.heap.size)/\∀k,k<zs.length->w.cell? ⟨g,k,none⟩=some (.int .i64 ((zs.getD k 0:Nat):Int))
def mH {ρ:Type}(w:World) (g:Nat) (l:List (cF ρ)):Prop:=∀i s,l[i]?=some s->g<w.heap.size/\w.cell? ⟨g,i*9,none⟩=some (sv s.name)/\w.cell? ⟨g,i*9+1,none⟩=some (.bool s.first)/\s.name.length≤maxLen/\s.ways.length≤1000000/\
 ∃ay gy capy,w.cell? ⟨g,i*9+7,none⟩=some (.slice ay s.ways.length capy)/\(0<s.ways.length->ay=some ⟨gy,0,none⟩/\gy<w.heap.size)/\vQ w gy s.ways
theorem vQ.keep {w w':World}{gy:Nat}{c:List Wy}(h:vQ w gy c) (k:0<c.length->w'.heap[gy]?=w.heap[gy]?):vQ w' gy c:=by
 intro m y j
 have e:=k (by have:=(aO5.1 j).1;omega)
 have l:∀o,w'.cell? ⟨gy,o,none⟩=w.cell? ⟨gy,o,none⟩:=fun o=>aY4 (w:=w) (a:=⟨gy,o,none⟩) e
 obtain ⟨p,q,h⟩:=h m y j
 refine ⟨p,q,?_⟩
 simp only[l]
 exact h
theorem mH.below {ρ:Type}{w w':World}{g:Nat}{l:List (cF ρ)}(h:mH w g l) (hb:Below w.heap.size w w'):mH w' g l:=by
 intro i s U
 obtain ⟨J,y,r,O,u,Q,n,c,I,k,D⟩:=h i s U
 exact ⟨aO2 J hb.size,aN hb y,aN hb r,O,u,Q,n,c,aN hb I,fun j=>⟨(k j).1,aO2 (k j).2 hb.size⟩,D.keep fun j=>hb.block n (k j).2⟩
theorem mH.names {ρ:Type}{w:World}{g:Nat}{l:List (cF ρ)}(h:mH w g l):E5 w g l.length (bD l):=by
 refine ⟨(mV l).symm,fun i c=>?_⟩
 obtain ⟨_,j,_,k,_⟩:=h i _ (aN3 c)
 rw[D2 l i _ (aN3 c)]
 exact ⟨j,k⟩
theorem Tryz.ckInfoInt:(Tryz.prog.info? 3).map (fun i=>(i.zero,i.size,i.bytes))=some (some (.int .i64 0),1,8):=by kernel_rfl
theorem Ui (n:Nat):(madeCells (Value.cells (.int .i64 0)) (n*1))=((List.replicate n (0:Int)).map (Value.int .i64)).toArray:=by
 apply Array.toList_inj.1
 apply List.ext_getElem
 ·simp[madeCells]
 ·intro k c h
  simp[madeCells,Value.cells,Nat.mod_one]
theorem Iw (w:World) (l n:Nat) (r:l≤n) (s:n≤1000000):(Instr.makeSlice 23 (.int .i64 (l:Int)) (.int .i64 (n:Int))).run Tryz.prog w=.ok (.slice (some ⟨w.heap.size,0,none⟩) l n) (w.alloc (.cells ((List.replicate n (0:Int)).map (Value.int .i64)).toArray 3)):=by
 obtain ⟨i0,k,h,j,c⟩:=aY8 Tryz.ckInfoInt
 have:=run_make (P:=Tryz.prog) w 23 3 i0 (.int .i64 0) Tryz.underlying23 k h .i64 .i64 (l:Int) (n:Int) (by omega) (by omega) (by rw[c];omega) (by omega)
 rw[this,j]
 simp only[aW7]
 rw[Ui]
theorem vX {P:Program}{w w':World}{ops:Array Oper}{rest:List Oper}{o:Oper}{a:Act}{Q:Exit->Act->World->Prop}(hgd:o.guard=none) (s x:Operand) (t:TypeId)
    (ho:o.op=.call { callee:=.builtin .append,args:=#[s,x],argTypes:=#[t,t] }) (vs vx r:Value) (hs:a.eval s=vs) (hx:a.eval x=vx) (hr:(Builtin.append_ #[t,t] o.type #[vs,vx]).run P w=.ok r w') (h:wpList P ops Q rest (a.put o.dst r) w'):wpList P ops Q (o::rest) a w:=
 wpList_plain hgd fun _ hK=>by
  unfold Oper.wp execOp
  simp only[ho,resolve,invoke,builtin,Sem.run_bind,Sem.run_pure,Result.andThen_ok,List.map_toArray,List.map_cons,List.map_nil,hs,hx,hr]
  exact hK _ _ h
theorem aG0 {w:World}{go r n q:Nat}{X:List Int}(x:Int) (l:dF w go X) (O:X.length=n) (J:r<n) (y:w.cell? ⟨q,0,none⟩=some (.int .i64 x)) :
    (Builtin.append_ #[23,23] 23 #[.slice (some ⟨go,0,none⟩) r n,.slice (some ⟨q,0,none⟩) 1 1]).run Tryz.prog w=.ok (.slice (some ⟨go,0,none⟩) (r+1) n) (w.setCell ⟨go,r,none⟩ (.int .i64 x)):=by
 obtain ⟨i0,I,D,c,s⟩:=aY8 Tryz.ckInfoInt
 have k:=l.cell r (by omega)
 have:=run_append_room_cells (P:=Tryz.prog) w 23 23 3 i0 Tryz.underlying23 I go 0 r n ⟨q,0,none⟩ 1 1 [.int .i64 x] (by rw[c];rfl) (fun j u h=>by
  cases j with
  | zero=>simp at h;subst h;simpa [Addr.add] using y
  | succ j=>simp at h) (by simp[Value.oneCell']) (by omega) (fun j h=>by
   obtain rfl:j=0:=by simpa using h
   rw[c,aX1,Nat.mul_one,aY2,k];rfl) (fun j h=>by
   obtain rfl:j=0:=by simpa using h
   rw[c,aX1,Nat.mul_one,aY2];exact aG l _)
 rw[this,c,aX1,Nat.mul_one]
 rfl
structure Nv {ρ:Type}(W:World) (ad:Option Addr) (g n cap rb fb wb gw pb mb nm:Nat) (l:List (cF ρ)):Prop where
 hrb:W.cell? ⟨rb,0,none⟩=some (.slice ad n cap)
 hfb:W.cell? ⟨fb,0,none⟩=some (.func (.func 112) #[] #[.pointer (some ⟨pb,0,none⟩)])
 hwb:W.cell? ⟨wb,0,none⟩=some (.slice (some ⟨gw,0,none⟩) n n)
 hpb:W.heap[pb]?=some (.cells #[.map (some mb)] 177 (0,0))
 hmb:iD W mb nm (jT (bD l))
 sts:mH W g l
 gl:∀i s,l[i]?=some s->g≠gw/\∀ay gy capy,W.cell? ⟨g,i*9+7,none⟩=some (.slice ay s.ways.length capy)->0<s.ways.length->ay=some ⟨gy,0,none⟩->gy≠gw
 ne:gw≠rb/\gw≠fb/\gw≠wb/\gw≠pb/\gw≠mb
theorem Nv.fr {ρ:Type}{W wr:World}{ad:Option Addr}{g n cap Y fb Z D pb mb nm:Nat}{l:List (cF ρ)}(h:Nv W ad g n cap Y fb Z D pb mb nm l) (I:Fr W.heap.size [D] W wr):Nv wr ad g n cap Y fb Z D pb mb nm l:=by
 obtain ⟨e1,e2,e3,e4,e5⟩:=h.ne
 have y:∀{b o:Nat}{v:Value},b≠D->W.cell? ⟨b,o,none⟩=some v->wr.cell? ⟨b,o,none⟩=some v:=fun {b o v} hb hv=>by
  rw[I.cell (p:=⟨b,o,none⟩) (aY3 W _ hv) (by simpa using hb)];exact hv
 have U:∀{b:Nat},b≠D->b<W.heap.size->wr.heap[b]?=W.heap[b]?:=fun {b} hb hl=>I.block b hl (by simpa using hb)
 have hs:mH wr g l:=by
  intro i s j
  obtain ⟨h0,h1,h2,h3,h4,J,Q,c,e,O,h7⟩:=h.sts i s j
  have k:=(h.gl i s j).1
  have X:=(h.gl i s j).2 J Q c e
  exact ⟨aO2 h0 I.size,y k h1,y k h2,h3,h4,J,Q,c,y k e,fun u=>⟨(O u).1,aO2 (O u).2 I.size⟩,h7.keep fun u=>U (X u (O u).1) (O u).2⟩
 refine ⟨y (Ne.symm e1) h.hrb,y (Ne.symm e2) h.hfb,y (Ne.symm e3) h.hwb,by rw[U (Ne.symm e4) (aB h.hpb)];exact h.hpb,h.hmb.keep (U (Ne.symm e5) h.hmb.lt),hs,fun i s j=>⟨(h.gl i s j).1,fun J Q c r=>(h.gl i s j).2 J Q c ?_⟩,h.ne⟩
 rw[<-r,I.cell (p:=⟨g,i*9+7,none⟩) (h.sts i s j).1 (by simpa using (h.gl i s j).1)]
theorem Nv.count {ρ:Type}{W:World}{ad:Option Addr}{g n cap J fb Q u pb mb nm:Nat}{l:List (cF ρ)}(h:Nv W ad g n cap J fb Q u pb mb nm l) (hn:n=l.length) (ha:0<n->ad=some ⟨g,0,none⟩) {V:List Int}(hV:dF W u V) (D:V.length=n) (c:Int) (i:Nat) (hi:i<n)
    (r:∀m j,m≤((cQ l).getD i []).length->-4611686018427387904≤(jJ n c ((cQ l).getD i []) m V).getD j 0/\(jJ n c ((cQ l).getD i []) m V).getD j 0≤4611686018427387904) :
    Calls Tryz.prog 201 #[.int .i64 (i:Int),.int .i64 c,.pointer (some ⟨J,0,none⟩),.pointer (some ⟨fb,0,none⟩),.pointer (some ⟨Q,0,none⟩)] W fun e w'=>e=.returned (.tuple #[])/\Hid (dF w' u (jJ n c ((cQ l).getD i []) ((cQ l).getD i []).length V)/\Fr W.heap.size [u] W w'):=by
 obtain ⟨s,y⟩:∃s,l[i]?=some s:=⟨l[i]'(by omega),aN3 (by omega)⟩
 obtain ⟨e1,e2,e3,e4,X⟩:=h.ne
 obtain ⟨h0,h1,h2,h3,h4,Z,gy,k,U,O,h7⟩:=h.sts i s y
 rw[Sy l i s y,xT] at r ⊢
 exact Cg c hi ha (N:=s.ways.length) rfl h4 ⟨D.symm,fun s t Y=>by have:=(tQ Y).1;rw[mV] at this;omega⟩ h.hrb h.hfb h.hwb h.hpb h.hmb hV U O h7 ⟨e2,e3,e4,X,fun I=>Ne.symm ((h.gl i s y).2 Z gy k U I (O I).1)⟩ r
theorem G7 {ρ:Type}(l:List (cF ρ)) (T:List Bool) (j:Nat) (k:Nat) (n:k≤l.length) (r:l.length≤1000000) (c:∀s∈l,s.ways.length≤1000000):rC (cQ l) T j k≤1000000000000:=by
 have:=Yk (cQ l) T j 1000000 (fun i=>by
  rw[cQ,iO,aW4]
  cases h:l[i]? with
  | none=>simp
  | some s=>simp only[Option.map_some,Option.getD_some];rw[xT];exact c s (aO7 h)) k
 have u:k*1000000≤1000000*1000000:=Nat.mul_le_mul_right _ (by omega)
 omega
theorem F9 {ρ:Type}(l:List (cF ρ)) (c:∀s∈l,s.ways.length≤1000000) (i:Nat):((cQ l).getD i []).length≤1000000:=by
 rw[cQ,iO,aW4]
 cases h:l[i]? with
 | none=>simp
 | some s=>simp only[Option.map_some,Option.getD_some];rw[xT];exact c s (aO7 h)
theorem zK (n:Nat) (c:Int) (k:c=1\/c=-1) (h:List (Option Nat)) (s:h.length≤1000000) (V:List Int) (u:∀j,-1≤V.getD j 0/\V.getD j 0≤1000000000000) (m j:Nat) (r:m≤h.length):-4611686018427387904≤(jJ n c h m V).getD j 0/\(jJ n c h m V).getD j 0≤4611686018427387904:=by
 by_cases hj:j<V.length
 ·rw[V8 n c h V m r j hj]
  have D:=List.count_le_length (a:=some j) (l:=h.take m)
  have y:(h.take m).length≤h.length:=by rw[List.length_take];omega
  have I:=u j
  rcases k with rfl|rfl<;>omega
 ·rw[iO,aX3 (by rw[mG];omega)]
  simp
end
end Go.Proofs.YthieaobjdpfcoaaGreatDoor
