import Derived.Test.YthieaobjdpfcoaaGreatDoorVEzd
set_option maxRecDepth 100000
set_option maxHeartbeats 8000000
namespace Go.Proofs.YthieaobjdpfcoaaGreatDoor
open Go.Proofs.Tryz (prog)
section
open Go.RowKit Px
namespace Ew
open Px.Em (Kd Vr eQ eR jP Rg)
open Nx (Nt Sp)
def Zy (A:Nat->Prop) (w:World) (c:eQ×Int) (cs:List Value):Prop:=∃gW oW,cs=[.pointer (some ⟨gW,oW,none⟩),.int .i64 c.2]/\A gW/\B6 A w gW oW c.1
theorem Zy.carry {A A':Nat->Prop}{w w':World}(k:bB A A' w w') (c:eQ×Int) (cs:List Value) (h:Zy A w c cs):Zy A' w' c cs:=by
 obtain ⟨j,s,r,n,l⟩:=h
 exact ⟨j,s,r,(k j n (aY5 w _ l.t)).1,B6.carry k n l⟩
def qI (A:Nat->Prop) (w:World) (v:Value) (cs:List (eQ×Int)):Prop:=∃xs,w.ownsRow 0 305 2 v cs.length xs/\Rows (Zy A w) cs xs
def Zf (E:Nat) (ns:List bE) (P X:Nat->Prop) (kb:Nat) (w:World) (k:Kd) (wr:World) (kj:Kd):Prop:=
 ∃P1,eK E ns P1 wr kb kj/\(∀x,P1 x->Up P w wr x/\¬X x)/\(∀x,X x->x<wr.heap.size)/\bM P w wr/\k.net.places≤kj.net.places
def zR (E:Nat) (ns:List bE) (P A:Nat->Prop) (n kb:Nat) (w:World) (k:Kd) (o:Option ((List (eQ×Int)×Int)×Kd)) (e:Ending) (w':World):Prop:=
 (e=Vl/\Hid (o=none)/\Hid (bM P w w'))\/∃cs t k' ac nc cc,e=.returned (.tuple #[.slice ac nc cc,.int .i64 t])/\Hid (o=some ((cs,t),k'))/\Hid (Zf E ns P (fun b=>(Value.slice ac nc cc).ownBlock=some b) kb w k w' k'/\qI A w' (.slice ac nc cc) cs/\(∀g,(Value.slice ac nc cc).ownBlock=some g->w.heap.size≤g)/\(∀c∈cs,xK ns n c.1)/\nc=cs.length/\cs.length≤1000000)
section
variable {P A:Nat->Prop}{w wr w2:World}{kb E d:Nat}{ns:List bE}{k kj k2:Kd}
theorem Xw:(prog.info? 305).map (fun i=>(i.zero,i.size,i.bytes))=some (some (.agg #[.pointer none,.int .i64 0]),2,16):=by kernel_rfl
theorem V3 {s:eR (St d) (Rg d)}{so rest ahead taken:Int}{f:Wy->Bool}{y:eQ}{r:List eQ}{l:List (eQ×Int)}(h:so=-1\/f y.drawn=false):Em.gG (Em.aJ d) s so f (y::r) rest ahead taken l k=Em.gG (Em.aJ d) s so f r rest ahead taken l k:=by rw[Em.gG,if_pos h]
def Xm {s:eR (St d) (Rg d)}(so taken:Int) (f:Wy->Bool) (y:eQ) (r:List eQ) (l:List (eQ×Int)) (rest' ahead':Int):Em.M (List (eQ×Int)×Int):=
 if ahead'=rest' then pure (l++[(y,ahead')],so) else (Em.uZ taken ahead' >>= fun t=>Em.gG (Em.aJ d) s so f r rest' ahead' t (l++[(y,ahead')]))
theorem Gj {s:eR (St d) (Rg d)}{so rest ahead j:Int}{f:Wy->Bool}{y:eQ}{r:List eQ}{l:List (eQ×Int)}(h:¬(so=-1\/f y.drawn=false)) :
    Em.gG (Em.aJ d) s so f (y::r) rest ahead j l k=(Em.dU rest ahead >>= fun rest'=>Em.pX (Em.aJ d) s y rest' >>= fun ahead'=>Xm (s:=s) so j f y r l rest' ahead') k:=by
 rw[Em.gG,if_neg h]
 rfl
theorem aN0 {gy oy:Nat}{y:Wy}{p:Option Addr}{q:Value}(h:jE A w gy oy y p q):Calls prog 203 #[.pointer (some ⟨gy,oy,none⟩)] w fun e w'=>e=.returned (.bool ((fun y=>decide (y.kind=1)) y))/\w'=w:=by
 have c0:=h.1
 have c1:=h.2.1
 have hb:((y.kind:Int)==1)=decide (y.kind=1):=by rw[Bool.eq_iff_iff];simp;omega
 have l:((y.kind:Int) != 1)=!decide (y.kind=1):=by rw[bne,hb]
 obtain ⟨kd,j⟩:∃kd:Int,kd=(y.kind:Int):=⟨_,rfl⟩
 rw[<-j] at c0 hb l
 clear h j
 cases hnow:y.now
 all_goals
  rw[hnow] at c1
  clear hnow
  go_enter Tryz.func203,Tryz.ntmps203
  go_wp2_with fail
  go_ret
  exact ⟨rfl,rfl⟩
theorem aM9 {gy oy:Nat}{y:Wy}{p:Option Addr}{q:Value}(h:jE A w gy oy y p q):Calls prog 210 #[.pointer (some ⟨gy,oy,none⟩)] w fun e w'=>e=.returned (.bool ((fun y=>!decide (y.kind=1)) y))/\w'=w:=by
 have c0:=h.1
 have c1:=h.2.1
 have hb:((y.kind:Int)==1)=decide (y.kind=1):=by rw[Bool.eq_iff_iff];simp;omega
 have l:((y.kind:Int) != 1)=!decide (y.kind=1):=by rw[bne,hb]
 obtain ⟨kd,j⟩:∃kd:Int,kd=(y.kind:Int):=⟨_,rfl⟩
 rw[<-j] at c0 hb l
 clear h j
 cases hnow:y.now
 all_goals
  rw[hnow] at c1
  clear hnow
  go_enter Tryz.func210,Tryz.ntmps210
  go_wp2_with fail
  go_ret
  exact ⟨rfl,rfl⟩
theorem aM8 {gy oy:Nat}{y:Wy}{p:Option Addr}{q:Value}(h:jE A w gy oy y p q):Calls prog 231 #[.pointer (some ⟨gy,oy,none⟩)] w fun e w'=>e=.returned (.bool ((fun y=>y.now&&decide (y.kind=1)) y))/\w'=w:=by
 have c0:=h.1
 have c1:=h.2.1
 have hb:((y.kind:Int)==1)=decide (y.kind=1):=by rw[Bool.eq_iff_iff];simp;omega
 have l:((y.kind:Int) != 1)=!decide (y.kind=1):=by rw[bne,hb]
 obtain ⟨kd,j⟩:∃kd:Int,kd=(y.kind:Int):=⟨_,rfl⟩
 rw[<-j] at c0 hb l
 clear h j
 cases hnow:y.now
 all_goals
  rw[hnow] at c1
  simp only[hnow]
  clear hnow
  go_enter Tryz.func231,Tryz.ntmps231
  go_wp2_with fail
  go_ret
  exact ⟨rfl,rfl⟩
theorem aM7 {gy oy:Nat}{y:Wy}{p:Option Addr}{q:Value}(h:jE A w gy oy y p q):Calls prog 234 #[.pointer (some ⟨gy,oy,none⟩)] w fun e w'=>e=.returned (.bool ((fun y=>y.now && !decide (y.kind=1)) y))/\w'=w:=by
 have c0:=h.1
 have c1:=h.2.1
 have hb:((y.kind:Int)==1)=decide (y.kind=1):=by rw[Bool.eq_iff_iff];simp;omega
 have l:((y.kind:Int) != 1)=!decide (y.kind=1):=by rw[bne,hb]
 obtain ⟨kd,j⟩:∃kd:Int,kd=(y.kind:Int):=⟨_,rfl⟩
 rw[<-j] at c0 hb l
 clear h j
 cases hnow:y.now
 all_goals
  rw[hnow] at c1
  simp only[hnow]
  clear hnow
  go_enter Tryz.func234,Tryz.ntmps234
  go_wp2_with fail
  go_ret
  exact ⟨rfl,rfl⟩
theorem qI.keep {w':World}{v:Value}{cs:List (eQ×Int)}(h:qI A w v cs) (j:bB A A w w') (l:∀g,v.ownBlock=some g->w'.heap[g]?=w.heap[g]?):qI A w' v cs:=by
 obtain ⟨s,r,n⟩:=h
 exact ⟨s,eY (A:=fun b=>v.ownBlock=some b) (A':=fun _=>True) r (fun _ h=>h) (fun b hb _=>⟨trivial,l b hb⟩),n.map (Zy.carry j)⟩
theorem Zf.next {X P1:Nat->Prop}(p2:∀x,P1 x->Up P w wr x/\¬X x) (p3:∀x,X x->x<wr.heap.size) (p4:bM P w wr) (p5:k.net.places≤kj.net.places) (h:At E ns P1 kb wr kj w2 k2):Zf E ns P X kb w k w2 k2:=by
 have j:bM P w w2:=p4.trans h.2.1 fun b hb l=>(p2 b l).1.elim id fun h=>absurd h.1 (by omega)
 refine ⟨_,h.1,fun x hx=>?_,fun x hx=>aO5 (p3 x hx) h.2.1.size,j,aY2 p5 h.2.2⟩
 have:=h.2.1.size
 have:=p4.size
 rcases hx with hx|hx
 ·exact ⟨Up.size h.2.1.size x (p2 x hx).1,(p2 x hx).2⟩
 ·exact ⟨.inr ⟨by omega,hx.2⟩,fun h=>absurd (p3 x h) (by omega)⟩
theorem Yn {P1:Nat->Prop}{n U oW:Nat}{y:eQ}{x2:Int}{v v5:Value}{cs:List (eQ×Int)}{xs news:List Value}{ob:Obj}{w5:World}(hR:Ro A P w) (ac:Ro A P1 wr) (Z:B6 A wr U oW y) (s:A U) (Y:xK ns n y) (p2:∀x,P1 x->Up P w wr x/\¬(v.ownBlock=some x)) (p3:∀x,v.ownBlock=some x->x<wr.heap.size) (p4:bM P w wr) (p5:k.net.places≤kj.net.places) (I:Rows (Zy A wr) cs xs) (h4:∀g,v.ownBlock=some g->w.heap.size≤g) (h5:∀c∈cs,xK ns n c.1) (r:At E ns P1 kb wr kj w2 k2)
    (l:news=[.pointer (some ⟨U,oW,none⟩),.int .i64 x2]) (j:w5.ownsRow 0 305 2 v5 (cs.length+1) (xs++news)) (O:(w2.alloc ob).grownBy w5 v.ownBlock) (u:v5.ownBlock=v.ownBlock\/v5.ownBlock=some (w2.alloc ob).heap.size) :
    Zf E ns P (fun b=>v5.ownBlock=some b) kb w k w5 k2/\qI A w5 v5 (cs++[(y,x2)])/\(∀g,v5.ownBlock=some g->w.heap.size≤g)/\∀c∈cs++[(y,x2)],xK ns n c.1:=by
 have s1:=p4.size
 have s2:=r.2.1.size
 have s3:(w2.alloc ob).heap.size=w2.heap.size+1:=by simp
 have s4:=O.size
 have Q:∀x,Up P1 wr w2 x->x<w2.heap.size/\v.ownBlock≠some x:=fun x hx=>by
  refine ⟨r.1.2.2 x hx,fun h=>?_⟩
  rcases hx with hx|hx
  ·exact (p2 x hx).2 h
  ·exact absurd (p3 x h) (by omega)
 have hA:∀x,A x->v.ownBlock≠some x:=fun x hx h=>absurd (h4 x h) (by have:=(hR x hx).1;omega)
 have D:bB A A wr w5:=fun b hb hl=>⟨hb,by rw[O.block b (by omega) (fun e=>hA b hb e.symm),Below.heap_alloc _ _ _ (by omega),(r.keep ac b hb hl).2]⟩
 have aa:bB (Up P1 wr w2) (Up P1 wr w2) w2 w5:=fun b hb hl=>⟨hb,by rw[O.block b (by omega) (fun e=>(Q b hb).2 e.symm),Below.heap_alloc _ _ _ hl]⟩
 have ab:bM P w w2:=p4.trans r.2.1 fun b hb hq=>(p2 b hq).1.elim id fun h=>absurd h.1 (by omega)
 refine ⟨⟨Up P1 wr w2,⟨r.1.1.imp fun _ h=>h.carry aa,r.1.2.1,fun b hb=>by have:=(Q b hb).1;omega⟩,fun x hx=>⟨?_,fun h=>?_⟩,fun x hx=>(j.lt x hx).2,(ab.alloc ob).grown O fun b hb=>.inr (h4 b hb),aY2 p5 r.2.2⟩,⟨_,by rw[aO9];exact j,(I.map (Zy.carry D)).append (Rows.one ⟨U,oW,l,s,B6.carry D s Z⟩)⟩,fun g h=>?_,fun c J=>?_⟩
 ·rcases hx with hx|hx
  ·exact Up.size (by omega) x (p2 x hx).1
  ·exact .inr ⟨by omega,by omega⟩
 ·rcases u with e|e
  ·exact (Q x hx).2 (e.symm.trans h)
  ·rw[h] at e;injection e with e;have:=(Q x hx).1;omega
 ·rcases u with e|e
  ·exact h4 g (e.symm.trans h)
  ·rw[h] at e;injection e with e;omega
 ·rcases aR2.1 J with J|J
  ·exact h5 c J
  ·rw[aP5.1 J];exact Y
theorem Yo {s:eR (St d) (Rg d)}{so taken:Int}{f:Wy->Bool}{y:eQ}{r:List eQ}{l:List (eQ×Int)}{a b:Int}(h:b=a):Xm (s:=s) so taken f y r l a b k=some ((l++[(y,b)],so),k):=by unfold Xm;rw[if_pos h];rfl
theorem aG2 {s:eR (St d) (Rg d)}{so taken:Int}{f:Wy->Bool}{y:eQ}{r:List eQ}{l:List (eQ×Int)}{a b:Int}(h:¬b=a):Xm (s:=s) so taken f y r l a b k=(Em.uZ taken b >>= fun t=>Em.gG (Em.aJ d) s so f r a b t (l++[(y,b)])) k:=by unfold Xm;rw[if_neg h]
end
section
variable {P A:Nat->Prop}{w wr w2:World}{kb E d:Nat}{ns:List bE}{k kj k2:Kd}
theorem Uo {F:Nat}{f:Wy->Bool}(hF:F=203\/F=210\/F=231\/F=234) (ap:∀{W:World}{gy oy:Nat}{y:Wy}{p:Option Addr}{q:Value},jE A W gy oy y p q->Calls prog F #[.pointer (some ⟨gy,oy,none⟩)] W fun e w'=>e=.returned (.bool (f y))/\w'=W) (hE:E<1000000) {gS o gd od n:Nat}{s:eR (St d) (Rg d)}{so:Int}(hs:vS A w (fH A d w) gS o s gd od) (hK:B9 ns n (eS ns d) s) (h:eK E ns P w kb k) (hR:Ro A P w) :
 Calls prog 202 #[.pointer (some ⟨kb,0,none⟩),.pointer (some ⟨gS,o,none⟩),.int .i64 so,.func (.func F) #[] #[]] w (zR E ns P A n kb w k (Em.choose (Em.aJ d) s so f k)):=by
 obtain ⟨X,hX⟩:=gQx (Em.choose (Em.aJ d) s so f k)
 have HX:Hid (X=Em.gG (Em.aJ d) s so f s.ways so (-1) (-1) [] k):=hX
 rw[<-hX]
 have bj:Hid (∀{W:World}{gy oy:Nat}{y:Wy}{p:Option Addr}{q:Value},jE A W gy oy y p q->Calls prog F #[.pointer (some ⟨gy,oy,none⟩)] W fun e w'=>e=.returned (.bool (f y))/\w'=W):=ap
 obtain ⟨i0,hi,bn,bu,bp⟩:=aZ1 Xw
 obtain ⟨aw,gw,cw,q1,bg,ax,bb⟩:=hs.wy
 obtain ⟨N,hN⟩:=gQx s.ways.length
 rw[<-hN] at q1 bg ax
 have HW:Hid ((0<N->aw=some ⟨gw,0,none⟩/\A gw)/\(∀j y,s.ways[j]?=some y->B6 A w gw (j*3) y)/\N=s.ways.length/\w.cell? ⟨gS,o+1,none⟩=some (.slice aw N cw)):=⟨ax,bb,hN,q1⟩
 have HC:Hid (eK E ns P w kb k/\Ro A P w/\vS A w (fH A d w) gS o s gd od/\B9 ns n (eS ns d) s):=⟨h,hR,hs,hK⟩
 have HP:Hid (∀b,P b->b<w.heap.size):=h.2.2
 have bz:(N:Int)≤1000000:=by have:=hK.wl;omega
 clear hs hK h hR hX ap bg ax bb hN
 rcases hF with rfl|rfl|rfl|rfl
 all_goals
  go_enter Tryz.func202,Tryz.ntmps202
  go_wp2_with fail
  clear q1
  go_loopg [10,11,12,13,22] N (fun fu lv rv hv tv i wr=>∃(j:Nat) (cs:List (eQ×Int)) (rest ahead l:Int) (kj:Kd) (J:Option Addr) (I:Nat),fu=N-j/\j≤N/\cs.length≤j/\lv=.slice J cs.length I/\rv=.int .i64 rest/\hv=.int .i64 ahead/\tv=.int .i64 l/\i=.int .i64 (j:Int)/\Hid (X=Em.gG (Em.aJ d) s so f (s.ways.drop j) rest ahead l cs kj/\Zf E ns P (fun b=>(Value.slice J cs.length I).ownBlock=some b) kb w k wr kj/\qI A wr (.slice J cs.length I) cs/\(∀g,(Value.slice J cs.length I).ownBlock=some g->w.heap.size≤g)/\∀c∈cs,xK ns n c.1))
  case atStart=>exact ⟨0,[],so,-1,-1,k,none,0,by omega,by omega,by simp,rfl,rfl,rfl,rfl,rfl,HX.out,⟨P,HC.out.1,fun x hx=>⟨.inl hx,by simp[Value.ownBlock]⟩,fun x hx=>by simp[Value.ownBlock] at hx,bM.refl _ _,Int.le_refl _⟩,⟨[],aY7 _ _ _ _,rfl⟩,fun g hg=>by simp[Value.ownBlock] at hg,fun c hc=>by simp at hc⟩
  case round=>
   obtain ⟨j,cs,rest,ahead,l,kj,J,I,rfl,hj,bv,rfl,rfl,rfl,rfl,rfl,hr⟩:=hrel
   obtain ⟨O,⟨P1,p1,p2,p3,p4,p5⟩,Y,ab,Z⟩:=hr.out
   by_cases hlt:j<N
   ·obtain ⟨y,hy⟩:∃y:eQ,s.ways[j]?=some y:=⟨s.ways[j]'(by rw[<-HW.out.2.2.1];exact hlt),aN4 _⟩
    have kp:bB A A w wr:=HC.out.2.1.keep p4
    have ay:=(HW.out.1 (by omega)).2
    have ai:=B6.carry kp ay (HW.out.2.1 j y hy)
    have aj:=HC.out.2.2.2.wy y (aP1 hy)
    obtain ⟨gy,oy,pc,qs,y0,br,al⟩:=ai.d
    have ba:=aK9 aw gw N cw j hlt (fun hp=>(HW.out.1 hp).1)
    have q1:=cL kp HC.out.2.2.1.dA.2 HW.out.2.2.2
    rw[dT hy] at O
    have r:=bj.out al
    obtain ⟨fy,ae⟩:=gQx (f y.drawn)
    rw[<-ae] at r
    obtain ⟨oW,af⟩:=gQx (j*3)
    rw[<-af] at ba y0
    by_cases hskip:so=-1\/fy=false
    ·have bc:Hid (X=Em.gG (Em.aJ d) s so f (s.ways.drop (j+1)) rest ahead l cs kj/\Zf E ns P (fun b=>(Value.slice J cs.length I).ownBlock=some b) kb w k wr kj/\qI A wr (.slice J cs.length I) cs/\(∀g,(Value.slice J cs.length I).ownBlock=some g->w.heap.size≤g)/\∀c∈cs,xK ns n c.1):=⟨O.trans (V3 (by rw[<-ae];exact hskip)),⟨P1,p1,p2,p3,p4,p5⟩,Y,ab,Z⟩
     by_cases hso:so=-1
     ·have t:(so == -1)=true:=by simpa using hso
      clear hr O p1 p2 p3 p4 p5 Y ab Z kp ai aj al ae hskip hso hy af r
      go_wp2_with fail
      go_roundg (N-(j+1))
      case measure=>omega
      case rel=>exact ⟨j+1,cs,rest,ahead,l,kj,J,I,rfl,by omega,by omega,rfl,rfl,rfl,rfl,by go_num,bc.out⟩
     ·have t:(so == -1)=false:=by simpa using hso
      obtain rfl:fy=false:=by rcases hskip with h|h;exact absurd h hso;exact h
      clear hr O p1 p2 p3 p4 p5 Y ab Z kp ai aj al ae hskip hso hy af
      go_wp2_with (refine r.mono ?_;rintro e w0 ⟨rfl,az⟩;obtain rfl:=az.symm;clear r)
      go_roundg (N-(j+1))
      case measure=>omega
      case rel=>exact ⟨j+1,cs,rest,ahead,l,kj,J,I,rfl,by omega,by omega,rfl,rfl,rfl,rfl,by go_num,bc.out⟩
    ·have t:(so == -1)=false:=by rw[beq_eq_false_iff_ne];exact fun e=>hskip (.inl e)
     obtain rfl:fy=true:=by cases fy;exact absurd (.inr rfl) hskip;rfl
     have an:Hid (∀b,P1 b->b<wr.heap.size):=p1.2.2
     have ak:Hid (∀w2,bM P1 wr w2->bM P w w2):=fun w2 hf=>p4.trans hf fun b hb hq=>(p2 b hq).1.elim id fun h=>absurd h.1 (by omega)
     have a0:Hid (At E ns P1 kb wr kj wr kj):=At.start p1
     have e0:Hid (X=(Em.dU rest ahead >>= fun ah=>Em.pX (Em.aJ d) s y ah >>= fun am=>Xm (s:=s) so l f y (s.ways.drop (j+1)) cs ah am) kj):=O.trans (Gj (by rw[<-ae];exact hskip))
     have bm:Ro A P1 wr:=fun b hb=>⟨aO5 (HC.out.2.1 b hb).1 p4.size,fun hp=>(p2 b hp).1.elim (HC.out.2.1 b hb).2 fun h=>absurd h.1 (by have:=(HC.out.2.1 b hb).1;omega)⟩
     have bk:=oL rest ahead a0.out.1 hE
     have HR:Hid (Ro A P1 wr/\vS A wr (fH A d wr) gS o s gd od/\B6 A wr gw oW y/\A gw/\xK ns n y/\(∀x,P1 x->Up P w wr x/\¬((Value.slice J cs.length I).ownBlock=some x))/\(∀x,(Value.slice J cs.length I).ownBlock=some x->x<wr.heap.size)/\bM P w wr/\k.net.places≤kj.net.places/\qI A wr (.slice J cs.length I) cs/\(∀g,(Value.slice J cs.length I).ownBlock=some g->w.heap.size≤g)/\∀c∈cs,xK ns n c.1):=⟨bm,HC.out.2.2.1.carry kp (fH.carry d kp),by rw[af];exact ai,ay,aj,p2,p3,p4,p5,Y,ab,Z⟩
     clear hr O p1 p2 p3 p4 p5 Y ab Z kp ai aj al ae hskip hy af bm ay br
     go_upto_region 8 with (refine r.mono ?_;rintro e w0 ⟨rfl,az⟩;obtain rfl:=az.symm;clear r)
     go_upto_region 9 with (go_at_call 204;refine bk.mono ?_;rintro e w1 (⟨rfl,h0,Q⟩|⟨x1,k1,rfl,h0,Q⟩);(· exact ⟨rfl,.inl ⟨rfl,e0.out.trans (aH h0.out),ak.out _ (a0.out.2.1.up Q.out)⟩⟩);have a1:Hid (At E ns P1 kb wr kj w1 k1):=a0.out.step an.out Q.out;have e1:Hid _:=e0.out.trans (bind_some h0.out);clear h0 Q bk)
     have kp:=a1.out.keep HR.out.1
     have bi:=aF4 (so0:=x1) hE (HR.out.2.1.carry kp (fH.carry d kp)) HC.out.2.2.2 HR.out.2.2.2.1 (B6.carry kp HR.out.2.2.2.1 HR.out.2.2.1) HR.out.2.2.2.2.1 a1.out.1 (a1.out.ro HR.out.1)
     clear kp q1 y0 ba t
     go_upto_region 10 with (go_at_call 229;refine bi.mono ?_;rintro e w2 (⟨rfl,h0,Q⟩|⟨D,k2,rfl,h0,Q⟩);(· exact ⟨rfl,.inl ⟨rfl,e1.out.trans (aH h0.out),ak.out _ (a1.out.2.1.up Q.out)⟩⟩);have a2:Hid (At E ns P1 kb wr kj w2 k2):=a1.out.step an.out Q.out;have e2:Hid _:=e1.out.trans (bind_some h0.out);clear h0 Q bi)
     obtain ⟨xs,av,au⟩:=HR.out.2.2.2.2.2.2.2.2.2.1
     have U:w2.ownsRow 0 305 2 (.slice J cs.length I) cs.length xs:=eY (A:=fun b=>(Value.slice J cs.length I).ownBlock=some b) (A':=fun _=>True) av (fun _ h=>h) fun b hb hl=>⟨trivial,a2.out.2.1.block b hl fun hp=>(HR.out.2.2.2.2.2.1 b hp).2 hb⟩
     have ar:Hid (Rows (Zy A wr) cs xs):=au
     obtain ⟨m,hm⟩:=gQx cs.length
     have HM:Hid (m=cs.length):=hm
     rw[<-hm] at U bv
     have bw:(m:Int)≤1000000:=by omega
     rw[<-hm]
     clear av au hm a0 a1 e0 e1
     go_upto_region 11 with (at_builtin;refine wpList_append_own_at _ rfl (.tmp 51) (.tmp 55) 276 rfl 0 305 i0 _ 2 16 Tryz.underlying276 hi bn bu bp rfl (by decide) _ _ _ rfl (U.alloc _) ⟨w2.heap.size,0,none⟩ 1 1 [.pointer (some ⟨gw,oW,none⟩),.int .i64 D] rfl rfl (eN _ _ _) (by intro u hu;simp at hu;rcases hu with rfl|rfl<;>rfl) (by unfold maxLen;omega) (by omega) (by simp) ?_;intro v5 w5 aa ag _ bh;obtain ⟨a5,m5,e5⟩:=aP aa;subst e5)
     have be:=Yn (v:=.slice J cs.length I) (ob:=.cells #[.pointer (some ⟨gw,oW,none⟩),.int .i64 D] 305) HC.out.2.1 HR.out.1 HR.out.2.2.1 HR.out.2.2.2.1 HR.out.2.2.2.2.1 HR.out.2.2.2.2.2.1 HR.out.2.2.2.2.2.2.1 HR.out.2.2.2.2.2.2.2.1 HR.out.2.2.2.2.2.2.2.2.1 ar.out HR.out.2.2.2.2.2.2.2.2.2.2.1 HR.out.2.2.2.2.2.2.2.2.2.2.2 a2.out rfl (by rw[<-HM.out];exact aa) (by rw[<-HM.out];exact ag) (by rw[<-HM.out];exact bh)
     have ad:Hid _:=be
     clear be aa ag bh U ar
     by_cases hend:D=x1
     ·have HF:Hid (zR E ns P A n kb w k X (.returned (.tuple #[.slice a5 (m+1) m5,.int .i64 so])) w5):=.inr ⟨cs++[(y,D)],so,k2,a5,m+1,m5,rfl,e2.out.trans (Yo hend),ad.out.1,ad.out.2.1,ad.out.2.2.1,ad.out.2.2.2,by rw[aO9,<-HM.out];show m+1=m+1/\m+1≤1000000;omega⟩
      have t:(D==x1)=true:=by simpa using hend
      clear hend ad e2 a2 HR ak an
      go_wp2_with fail
      go_ret2
      exact HF.out
     ·have t:(D==x1)=false:=by simpa using hend
      obtain ⟨⟨P5,p1,p2,p3,p4,p5⟩,g2,g3,g4⟩:=ad.out
      have bf:=pS l D p1 hE
      have e3:Hid (X=(Em.uZ l D >>= fun t=>Em.gG (Em.aJ d) s so f (s.ways.drop (j+1)) x1 D t (cs++[(y,D)])) k2):=e2.out.trans (aG2 hend)
      have HQ:Hid (eK E ns P5 w5 kb k2/\(∀x,P5 x->Up P w w5 x/\¬((Value.slice a5 (m+1) m5).ownBlock=some x))/\(∀x,(Value.slice a5 (m+1) m5).ownBlock=some x->x<w5.heap.size)/\bM P w w5/\k.net.places≤k2.net.places/\qI A w5 (.slice a5 (m+1) m5) (cs++[(y,D)])/\(∀g,(Value.slice a5 (m+1) m5).ownBlock=some g->w.heap.size≤g)/\∀c∈cs++[(y,D)],xK ns n c.1):=⟨p1,p2,p3,p4,p5,g2,g3,g4⟩
      have ao:Hid (∀w6,bM P5 w5 w6->bM P w w6):=fun w2 hf=>p4.trans hf fun b hb hq=>(p2 b hq).1.elim id fun h=>absurd h.1 (by omega)
      clear hend ad e2 a2 HR ak an p1 p2 p3 p4 p5 g2 g3 g4
      go_wp2_with (go_at_call 211;refine bf.mono ?_;rintro e w6 (⟨rfl,h0,Q⟩|⟨x6,k6,rfl,h0,Q⟩);(· exact ⟨rfl,.inl ⟨rfl,e3.out.trans (aH h0.out),ao.out _ Q.out⟩⟩))
      have bo:Hid (X=Em.gG (Em.aJ d) s so f (s.ways.drop (j+1)) x1 D x6 (cs++[(y,D)]) k6/\Zf E ns P (fun b=>(Value.slice a5 (m+1) m5).ownBlock=some b) kb w k w6 k6/\qI A w6 (.slice a5 (m+1) m5) (cs++[(y,D)])/\(∀g,(Value.slice a5 (m+1) m5).ownBlock=some g->w.heap.size≤g)/\∀c∈cs++[(y,D)],xK ns n c.1):=by
       obtain ⟨q1,q2,q3,q4,q5,q6,q7,q8⟩:=HQ.out
       have bq:Ro A P5 w5:=fun b hb=>⟨aO5 (HC.out.2.1 b hb).1 q4.size,fun hp=>(q2 b hp).1.elim (HC.out.2.1 b hb).2 fun h=>absurd h.1 (by have:=(HC.out.2.1 b hb).1;omega)⟩
       exact ⟨e3.out.trans (bind_some h0.out),Zf.next q2 q3 q4 q5 Q.out,q6.keep (bq.keep Q.out.2.1) (fun g hg=>Q.out.2.1.block g (q3 g hg) fun hp=>(q2 g hp).2 hg),q7,q8⟩
      have hlen:(cs++[(y,D)]).length=m+1:=by rw[aO9,<-HM.out];rfl
      clear h0 Q bf e3 HQ ao
      go_roundg (N-(j+1))
      case measure=>omega
      case rel=>exact ⟨j+1,cs++[(y,D)],x1,D,x6,k6,a5,m5,rfl,by omega,by rw[hlen];omega,by rw[hlen],rfl,rfl,rfl,by go_num,by rw[hlen];exact bo.out⟩
   ·obtain rfl:j=N:=by omega
    have HF:Hid (zR E ns P A n kb w k X (.returned (.tuple #[.slice J cs.length I,.int .i64 l])) wr):=.inr ⟨cs,l,kj,J,cs.length,I,rfl,by rw[Hid,O,HW.out.2.2.1,aR4];rfl,⟨P1,p1,p2,p3,p4,p5⟩,Y,ab,Z,rfl,by omega⟩
    clear hr O p1 p2 p3 p4 p5 Y ab Z
    go_wp2_with fail
    go_ret2
    exact HF.out
theorem aL0 (hE:E<1000000) {gS o gd od n:Nat}{s:eR (St d) (Rg d)}{so:Int}(hs:vS A w (fH A d w) gS o s gd od) (hK:B9 ns n (eS ns d) s) (h:eK E ns P w kb k) (hR:Ro A P w) :
 Calls prog 202 #[.pointer (some ⟨kb,0,none⟩),.pointer (some ⟨gS,o,none⟩),.int .i64 so,.func (.func 203) #[] #[]] w (zR E ns P A n kb w k (Em.choose (Em.aJ d) s so (fun y=>decide (y.kind=1)) k)):=Uo (.inl rfl) aN0 hE hs hK h hR
theorem aK8 (hE:E<1000000) {gS o gd od n:Nat}{s:eR (St d) (Rg d)}{so:Int}(hs:vS A w (fH A d w) gS o s gd od) (hK:B9 ns n (eS ns d) s) (h:eK E ns P w kb k) (hR:Ro A P w) :
 Calls prog 202 #[.pointer (some ⟨kb,0,none⟩),.pointer (some ⟨gS,o,none⟩),.int .i64 so,.func (.func 210) #[] #[]] w (zR E ns P A n kb w k (Em.choose (Em.aJ d) s so (fun y=>!decide (y.kind=1)) k)):=Uo (.inr (.inl rfl)) aM9 hE hs hK h hR
theorem aK2 (hE:E<1000000) {gS o gd od n:Nat}{s:eR (St d) (Rg d)}{so:Int}(hs:vS A w (fH A d w) gS o s gd od) (hK:B9 ns n (eS ns d) s) (h:eK E ns P w kb k) (hR:Ro A P w) :
 Calls prog 202 #[.pointer (some ⟨kb,0,none⟩),.pointer (some ⟨gS,o,none⟩),.int .i64 so,.func (.func 231) #[] #[]] w (zR E ns P A n kb w k (Em.choose (Em.aJ d) s so (fun y=>y.now&&decide (y.kind=1)) k)):=Uo (.inr (.inr (.inl rfl))) aM8 hE hs hK h hR
theorem aJ6 (hE:E<1000000) {gS o gd od n:Nat}{s:eR (St d) (Rg d)}{so:Int}(hs:vS A w (fH A d w) gS o s gd od) (hK:B9 ns n (eS ns d) s) (h:eK E ns P w kb k) (hR:Ro A P w) :
 Calls prog 202 #[.pointer (some ⟨kb,0,none⟩),.pointer (some ⟨gS,o,none⟩),.int .i64 so,.func (.func 234) #[] #[]] w (zR E ns P A n kb w k (Em.choose (Em.aJ d) s so (fun y=>y.now && !decide (y.kind=1)) k)):=Uo (.inr (.inr (.inr rfl))) aM7 hE hs hK h hR
end
open Px.Em (cX)
def Uu (a:Int×Bool):List Value:=[.int .i64 a.1,.bool a.2]
structure IM (T:Nat->Prop) (w:World) (b:Nat) (t:cX) (c:Nat) (vs:List Value) (role:Nat->Nat):Prop where
 hb:w.heap[b]?=some (.cells vs.toArray 238 (0,0))
 len:vs.length=t.length
 row:∀(i:Nat) (v:Value) (l:List (Int×Bool)),vs[i]?=some v->t[i]?=some l->w.ownsRow 0 240 2 v l.length (l.flatMap Uu)
 pb:T b/\role b=0
 pr:∀(i:Nat) (v:Value) (g:Nat),vs[i]?=some v->v.ownBlock=some g->T g/\role g=i+1
 many:∀(i:Nat) (l:List (Int×Bool)),t[i]?=some l->l.length≤c
def xE (T:Nat->Prop) (w:World) (b:Nat) (t:cX) (c:Nat):Prop:=(∃vs role,IM T w b t c vs role)/\∀x,T x->x<w.heap.size
section
variable {T T':Nat->Prop}{w w':World}{b c:Nat}{t:cX}
theorem IM.carry {vs:List Value}{j:Nat->Nat}(h:IM T w b t c vs j) (k:bB T T' w w'):IM T' w' b t c vs j:=by
 have kb:=k b h.pb.1 (aB h.hb)
 refine ⟨by rw[kb.2];exact h.hb,h.len,fun i v l n s=>eY (h.row i v l n s) (fun g r=>(h.pr i v g n r).1) k,⟨kb.1,h.pb.2⟩,fun i v g n r=>?_,h.many⟩
 have u:i<t.length:=by rw[<-h.len];exact (aO7.1 n).1
 exact ⟨(k g (h.pr i v g n r).1 ((h.row i v _ n (aN4 u)).lt g r).2).1,(h.pr i v g n r).2⟩
theorem xE.carry (h:xE T w b t c) (k:bB T T w w') (hs:w.heap.size≤w'.heap.size):xE T w' b t c:=
 ⟨by obtain ⟨⟨vs,role,h1⟩,_⟩:=h;exact ⟨vs,role,h1.carry k⟩,fun x hx=>aO5 (h.2 x hx) hs⟩
theorem xE.more {r:Nat}(h:xE T w b t c) (y:c≤r):xE T w b t r:=by
 obtain ⟨⟨vs,n,j⟩,u⟩:=h
 exact ⟨⟨vs,n,⟨j.hb,j.len,j.row,j.pb,j.pr,fun i l s=>aO6 (j.many i l s) y⟩⟩,u⟩
theorem nJ (i so:Int) (back:Bool):(Em.eC t i so back).length=t.length:=by unfold Em.eC;rw[aW4]
theorem info273:(prog.info? 240).map (fun i=>(i.zero,i.size,i.bytes))=some (some (.agg #[.int .i64 0,.bool false]),2,16):=by kernel_rfl
theorem Au (g n cap j:Nat) (l:j<n) (w:World):(Instr.indexAt 190 (.slice (some ⟨g,0,none⟩) n cap) (.int .i64 (j:Int))).run prog w=.ok (.pointer (some ⟨g,j,none⟩)) w:=by
 rw[aY8 _ _ _ _ _ _ _ (by kernel_rfl),if_pos ⟨by omega,by omega⟩]
 have e:(sizeOf (prog.elem 190)).run prog w=.ok 1 w:=by kernel_rfl
 rw[e]
 simp[Result.andThen,Addr.add]
 try (intro h;exact h.symm)
theorem aL2 (ad:Option Addr) (g n cap j:Nat) (r:j<n) (l:0<n->ad=some ⟨g,0,none⟩) (w:World):(Instr.indexAt 238 (.slice ad n cap) (.int .i64 (j:Int))).run prog w=.ok (.pointer (some ⟨g,j*2,none⟩)) w:=by
 obtain rfl:=l (by omega)
 rw[aY8 _ _ _ _ _ _ _ (by kernel_rfl),if_pos ⟨by omega,by omega⟩]
 have e:(sizeOf (prog.elem 238)).run prog w=.ok 2 w:=by kernel_rfl
 rw[e]
 simp[Result.andThen,Addr.add]
 try (intro h;exact h.symm)
theorem IM.grow {vs:List Value}{r:Nat->Nat}(h:IM T w b t c vs r) (aa:∀x,T x->x<w.heap.size) {i:Nat}{v v5:Value}{l:List (Int×Bool)}{so:Int}{back:Bool}{ob:Obj}{w5:World}(Y:vs[i]?=some v) (hl:t[i]?=some l)
    (I:w5.ownsRow 0 240 2 v5 (l.length+1) (l.flatMap Uu++Uu (so,back))) (Z:(w.alloc ob).grownBy w5 v.ownBlock) (U:v5.ownBlock=v.ownBlock\/v5.ownBlock=some (w.alloc ob).heap.size) :
    xE (Up T w (w5.setCell ⟨b,i,none⟩ v5)) (w5.setCell ⟨b,i,none⟩ v5) b (t.set i (l++[(so,back)])) (c+1)/\bM T w (w5.setCell ⟨b,i,none⟩ v5):=by
 have s3:(w.alloc ob).heap.size=w.heap.size+1:=by simp
 have s4:=Z.size
 have lb:=aB h.hb
 have Q:i<vs.length:=(aO7.1 Y).1
 have ne:∀x,x<w.heap.size->r x≠i+1->v5.ownBlock≠some x:=fun x hx O e=>by
  rcases U with D|D
  ·exact O (h.pr i v x Y (D.symm.trans e)).2
  ·rw[e] at D;injection D with D;omega
 have no:∀x,r x≠i+1->v.ownBlock≠some x:=fun x O e=>O (h.pr i v x Y e).2
 have kp:∀x,x<w.heap.size->x≠b->r x≠i+1->(w5.setCell ⟨b,i,none⟩ v5).heap[x]?=w.heap[x]?:=fun x hx hb O=>by
  rw[Below.heap_setCell _ _ _ _ hb,Z.block x (by omega) (fun e=>no x O e.symm),Below.heap_alloc _ _ _ hx]
 have k5:w5.heap[b]?=w.heap[b]?:=by rw[Z.block b (by omega) (fun e=>no b (by rw[h.pb.2];omega) e.symm),Below.heap_alloc _ _ _ lb]
 have J:bM T w (w5.setCell ⟨b,i,none⟩ v5):=(((bM.refl _ _).alloc ob).grown Z fun x hx=>.inl (h.pr i v x Y hx).1).setCell (.inl h.pb.1) _
 refine ⟨⟨⟨vs.set i v5,fun x=>if v5.ownBlock=some x then i+1 else r x,⟨cH (by rw[k5];exact h.hb) i v5,by rw[aW4,aW4];exact h.len,fun j u m n y=>?_,⟨.inl h.pb.1,?_⟩,fun j u g n s=>?_,fun j m y=>?_⟩⟩,iI aa J.size⟩,J⟩
 ·by_cases hj:i=j
  ·subst hj
   rw[List.getElem?_set_self (by omega)] at n
   rw[List.getElem?_set_self (by rw[<-h.len];exact Q)] at y
   injection n with n
   injection y with y
   subst n y
   have e2:(l++[(so,back)]).flatMap Uu=l.flatMap Uu++Uu (so,back):=by simp
   rw[aO9,e2]
   refine eY (A:=fun x=>v5.ownBlock=some x) (A':=fun _=>True) I (fun _ h=>h) fun x hx _=>⟨trivial,Below.heap_setCell _ _ _ _ fun e=>?_⟩
   have e:=e
   subst e
   exact ne x lb (by rw[h.pb.2];omega) hx
  ·rw[aX6 hj] at n y
   refine eY (A:=fun x=>u.ownBlock=some x) (A':=fun _=>True) (h.row j u m n y) (fun _ h=>h) fun x hx hl=>⟨trivial,kp x hl (fun e=>?_) ?_⟩
   ·have:=(h.pr j u x n hx).2;rw[e,h.pb.2] at this;omega
   ·rw[(h.pr j u x n hx).2];omega
 ·rw[if_neg (ne b lb (by rw[h.pb.2];omega))];exact h.pb.2
 ·by_cases hj:i=j
  ·subst hj
   rw[List.getElem?_set_self (by omega)] at n
   injection n with n
   subst n
   refine ⟨?_,if_pos s⟩
   rcases U with D|D
   ·exact .inl (h.pr i v g Y (D.symm.trans s)).1
   ·rw[s] at D;injection D with D
    exact .inr ⟨by omega,by simp[World.setCell];exact (I.lt g s).2⟩
  ·rw[aX6 hj] at n
   have hq:=h.pr j u g n s
   have hi:j<t.length:=by rw[<-h.len];exact (aO7.1 n).1
   refine ⟨.inl hq.1,?_⟩
   rw[if_neg (ne g ((h.row j u _ n (aN4 hi)).lt g s).2 (by rw[hq.2];omega))];exact hq.2
 ·by_cases hj:i=j
  ·subst hj
   rw[List.getElem?_set_self (by rw[<-h.len];exact Q)] at y
   injection y with y
   subst y
   have:=h.many i l hl
   rw[aO9];show _+1≤_;omega
  ·rw[aX6 hj] at y
   have:=h.many j m y;omega
theorem tM {i:Nat}(so:Int) (back:Bool) (h:xE T w b t c) (hi:i<t.length) (hc:c≤8000000000000) :
 Calls prog 117 #[.slice (some ⟨b,0,none⟩) t.length t.length,.int .i64 (i:Int),.int .i64 so,.bool back] w fun e w'=>e=.returned (.tuple #[])/\Hid (xE (Up T w w') w' b (Em.eC t i so back) (c+1)/\bM T w w'):=by
 obtain ⟨⟨vs,U,s⟩,D⟩:=h
 obtain ⟨i0,ae,aa,ac,ad⟩:=aZ1 info273
 obtain ⟨l,J⟩:∃l,t[i]?=some l:=⟨_,aN4 hi⟩
 obtain ⟨v,O⟩:∃v,vs[i]?=some v:=⟨_,aN4 (by rw[s.len];exact hi)⟩
 have hr:=s.row i v l O J
 obtain ⟨ao,cap,rfl⟩:=aP hr
 have c0:w.cell? ⟨b,i,none⟩=some (.slice ao l.length cap):=aF s.hb i (by simpa using O)
 have hm:=s.many i l J
 obtain ⟨m,y⟩:=gQx l.length
 have Y:Hid _:=y
 rw[<-y] at c0 hr hm
 obtain ⟨n,Q⟩:=gQx t.length
 rw[<-Q] at hi ⊢
 have af:=Au b n n i hi
 have lb:=aB s.hb
 have HI:Hid (IM T w b t c vs U/\(∀x,T x->x<w.heap.size)/\t[i]?=some l/\vs[i]?=some (.slice ao l.length cap)/\w.heap[b]?=some (.cells vs.toArray 238 (0,0))/\∀g,(Value.slice ao m cap).ownBlock=some g->g≠b):=⟨s,D,J,O,s.hb,fun g Z e=>by
  have h1:=s.pr i _ g O (by rw[<-y];exact Z)
  rw[e,s.pb.2] at h1;omega⟩
 have HE:Hid (Em.eC t i so back=t.set i (l++[(so,back)])):=by
  unfold Em.eC Hid
  rw[iO,show ((i:Int)).toNat=i by omega,J]
  rfl
 clear s D J O y Q
 go_enter Tryz.func117,Tryz.ntmps117
 go_wp2_with (at_builtin;refine wpList_append_own_at _ rfl (.tmp 13) (.tmp 17) 238 rfl 0 240 i0 _ 2 16 Tryz.underlying238 ae aa ac ad rfl (by decide) _ _ _ rfl (hr.alloc _) ⟨w.heap.size,0,none⟩ 1 1 [.int .i64 so,.bool back] rfl rfl (eN _ _ _) (by intro u hu;simp at hu;rcases hu with rfl|rfl<;>rfl) (by unfold maxLen;omega) (by omega) (by simp) ?_;intro v5 w5 j r _ ab;obtain ⟨a5,m5,e5⟩:=aP j;subst e5;have I:w5.heap[b]?=some (.cells vs.toArray 238 (0,0)):=by { rw[r.block b (by simp;omega) (fun e=>(HI.out.2.2.2.2.2 b e.symm) rfl),eB HI.out.2.2.2.2.1] };have d1:w5.cell? ⟨b,i,none⟩=some (.slice ao m cap):=by { rw[Y.out];exact aF I i (by simpa using HI.out.2.2.2.1) };have f1:=aG I i)
 go_end0
 obtain ⟨h1,h2,h3,h4,_⟩:=HI.out
 have Z:=h1.grow h2 (so:=so) (back:=back) (ob:=.cells #[.int .i64 so,.bool back] 240) (v5:=.slice a5 (m+1) m5) h4 h3 (by rw[<-Y.out];exact j) (by rw[<-Y.out];exact r) (by rw[<-Y.out];exact ab)
 rw[HE.out]
 exact ⟨rfl,Z.1,Z.2⟩
end
structure Two (E:Nat) (ns:List bE) (P T X:Nat->Prop) (kb b:Nat) (w:World) (k:Kd) (P1 T1:Nat->Prop) (wr:World) (kj:Kd) (t:cX) (c:Nat):Prop where
 cm:eK E ns P1 wr kb kj
 im:xE T1 wr b t c
 dis:∀x,P1 x->¬T1 x
 up:∀x,P1 x->Up P w wr x/\¬X x
 ut:∀x,T1 x->Up T w wr x/\¬X x
 xl:∀x,X x->x<wr.heap.size
 fr:bM (fun x=>P x\/T x) w wr
 pl:k.net.places≤kj.net.places
def Ul (E:Nat) (ns:List bE) (P T X:Nat->Prop) (kb b:Nat) (w:World) (k:Kd) (wr:World) (kj:Kd) (t:cX) (c:Nat):Prop:=∃P1 T1,Two E ns P T X kb b w k P1 T1 wr kj t c
def dE (E:Nat) (ns:List bE) (P T:Nat->Prop) (kb b:Nat) (w:World) (k:Kd) (c:Nat) (o:Option (cX×Kd)) (e:Ending) (w':World):Prop:=
 (e=Vl/\Hid (o=none)/\Hid (bM (fun x=>P x\/T x) w w'))\/∃t k',e=.returned (.tuple #[])/\Hid (o=some (t,k'))/\Hid (Ul E ns P T (fun _=>False) kb b w k w' k' t c)
section
variable {P T X P1 T1 A:Nat->Prop}{w wr w2:World}{kb b E c:Nat}{ns:List bE}{k kj k2:Kd}{t:cX}
theorem Two.start (h:eK E ns P w kb k) (hI:xE T w b t c) (hd:∀x,P x->¬T x):Two E ns P T (fun _=>False) kb b w k P T w k t c:=
 ⟨h,hI,hd,fun _ h=>⟨.inl h,id⟩,fun _ h=>⟨.inl h,id⟩,fun _ h=>h.elim,bM.refl _ _,Int.le_refl _⟩
theorem Two.bad (h:Two E ns P T X kb b w k P1 T1 wr kj t c) (hf:bM P1 wr w2):bM (fun x=>P x\/T x) w w2:=h.fr.trans hf fun b hb hq=>(h.up b hq).1.elim .inl fun h=>absurd h.1 (by omega)
theorem Two.coder (h:Two E ns P T X kb b w k P1 T1 wr kj t c) (j:At E ns P1 kb wr kj w2 k2):Two E ns P T X kb b w k (Up P1 wr w2) T1 w2 k2 t c:=by
 have l:=j.2.1.size
 have u:=h.fr.size
 refine ⟨j.1,h.im.carry (j.2.1.keep fun x hx r=>h.dis x r hx) l,fun x hx n=>?_,fun x hx=>?_,fun x hx=>⟨Up.size l x (h.ut x hx).1,(h.ut x hx).2⟩,fun x hx=>aO5 (h.xl x hx) l,h.bad j.2.1,aY2 h.pl j.2.2⟩
 ·rcases hx with hx|hx
  ·exact h.dis x hx n
  ·have:=h.im.2 x n;omega
 ·rcases hx with hx|hx
  ·exact ⟨Up.size l x (h.up x hx).1,(h.up x hx).2⟩
  ·exact ⟨.inr ⟨by omega,hx.2⟩,fun s=>absurd (h.xl x s) (by omega)⟩
theorem Two.into {s:cX}{r:Nat}(h:Two E ns P T X kb b w k P1 T1 wr kj t c) (I:xE (Up T1 wr w2) w2 b s r) (n:bM T1 wr w2):Two E ns P T X kb b w k P1 (Up T1 wr w2) w2 kj s r:=by
 have j:=n.size
 have J:=h.fr.size
 have y:bB P1 P1 wr w2:=n.keep fun x hx=>h.dis x hx
 refine ⟨⟨h.cm.1.imp fun _ h=>h.carry y,h.cm.2.1,fun x hx=>aO5 (h.cm.2.2 x hx) j⟩,I,fun x hx l=>?_,fun x hx=>⟨Up.size j x (h.up x hx).1,(h.up x hx).2⟩,fun x hx=>?_,fun x hx=>aO5 (h.xl x hx) j,h.fr.trans n fun b hb D=>(h.ut b D).1.elim .inr fun h=>absurd h.1 (by omega),h.pl⟩
 ·rcases l with l|l
  ·exact h.dis x hx l
  ·have:=h.cm.2.2 x hx;omega
 ·rcases hx with hx|hx
  ·exact ⟨Up.size j x (h.ut x hx).1,(h.ut x hx).2⟩
  ·exact ⟨.inr ⟨by omega,hx.2⟩,fun u=>absurd (h.xl x u) (by omega)⟩
theorem Two.below (h:Two E ns P T X kb b w k P1 T1 wr kj t c) (hb:Below wr.heap.size wr w2):Two E ns P T X kb b w k P1 T1 w2 kj t c:=
 ⟨h.cm.below hb,h.im.carry (fun x hx hl=>⟨hx,hb.block x hl⟩) hb.size,h.dis,fun x hx=>⟨Up.size hb.size x (h.up x hx).1,(h.up x hx).2⟩,fun x hx=>⟨Up.size hb.size x (h.ut x hx).1,(h.ut x hx).2⟩,fun x hx=>aO5 (h.xl x hx) hb.size,h.fr.trans (bM.of_below (P:=fun _=>False) hb) fun _ _ h=>h.elim,h.pl⟩
theorem Two.more {c':Nat}(h:Two E ns P T X kb b w k P1 T1 wr kj t c) (hc:c≤c'):Two E ns P T X kb b w k P1 T1 wr kj t c':=⟨h.cm,h.im.more hc,h.dis,h.up,h.ut,h.xl,h.fr,h.pl⟩
theorem Two.ro (h:Two E ns P T X kb b w k P1 T1 wr kj t c) (hR:Ro A (fun x=>P x\/T x) w):Ro A P1 wr:=fun x hx=>⟨aO5 (hR x hx).1 h.fr.size,fun hp=>(h.up x hp).1.elim (fun h=>(hR x hx).2 (.inl h)) fun h=>absurd h.1 (by have:=(hR x hx).1;omega)⟩
theorem Two.roT (h:Two E ns P T X kb b w k P1 T1 wr kj t c) (hR:Ro A (fun x=>P x\/T x) w):Ro A T1 wr:=fun x hx=>⟨aO5 (hR x hx).1 h.fr.size,fun hp=>(h.ut x hp).1.elim (fun h=>(hR x hx).2 (.inr h)) fun h=>absurd h.1 (by have:=(hR x hx).1;omega)⟩
theorem Two.keep (h:Two E ns P T X kb b w k P1 T1 wr kj t c) (hR:Ro A (fun x=>P x\/T x) w):bB A A w wr:=hR.keep h.fr
end
section
variable {P T X P1 T1 A:Nat->Prop}{w wr w2:World}{kb b E c:Nat}{ns:List bE}{k kj k2:Kd}{t:cX}
theorem Jy {y:eQ×Int}{r:List (eQ×Int)}:Em.take (y::r) t k=(Em.vM y.2 y.1.drawn.sets >>= fun _=>Em.take r (Em.eC t y.1.to y.2 y.1.drawn.back)) k:=rfl
theorem aR7 (ad:Option Addr) (g n cap j:Nat) (r:j<n) (l:0<n->ad=some ⟨g,0,none⟩) (w:World):(Instr.indexAt 276 (.slice ad n cap) (.int .i64 (j:Int))).run prog w=.ok (.pointer (some ⟨g,j*2,none⟩)) w:=by
 obtain rfl:=l (by omega)
 rw[aY8 _ _ _ _ _ _ _ (by kernel_rfl),if_pos ⟨by omega,by omega⟩]
 have e:(sizeOf (prog.elem 276)).run prog w=.ok 2 w:=by kernel_rfl
 rw[e]
 simp[Result.andThen,Addr.add]
 try (intro h;exact h.symm)
theorem qI.open {v:Value}{cs:List (eQ×Int)}(h:qI A w v cs):∃ad g cap,v=.slice ad cs.length cap/\(0<cs.length->ad=some ⟨g,0,none⟩/\v.ownBlock=some g)/\∀(i:Nat) (a:eQ×Int),cs[i]?=some a->∃gW oW,w.cell? ⟨g,i*2,none⟩=some (.pointer (some ⟨gW,oW,none⟩))/\w.cell? ⟨g,i*2+1,none⟩=some (.int .i64 a.2)/\A gW/\B6 A w gW oW a.1:=by
 obtain ⟨O,n,r⟩:=h
 obtain ⟨ad,g,cap,D,J,l,u⟩:=wU.open (A:=fun x=>v.ownBlock=some x) (k:=2) (fun a c ⟨_,_,hc,_⟩=>by rw[hc];rfl) ⟨n,fun _ h=>h⟩ r
 refine ⟨ad,g,cap,D,fun j=>⟨(l j).1,(l j).2.1⟩,fun i a s=>?_⟩
 obtain ⟨c,⟨gW,oW,rfl,y,I⟩,hx⟩:=u i a s
 exact ⟨gW,oW,hx 0 _ rfl,hx 1 _ rfl,y,I⟩
theorem dS (hE:E<1000000) {n:Nat}{v:Value}{cs:List (eQ×Int)}(hv:qI A w v cs) (ak:∀g,v.ownBlock=some g->¬(P g\/T g)) (ba:∀y∈cs,xK ns n y.1) (hn:t.length=n) (bi:cs.length≤1000000) (h:eK E ns P w kb k) (hI:xE T w b t c) (hd:∀x,P x->¬T x) (hR:Ro A (fun x=>P x\/T x) w) (hc:c≤7000000000000) :
 Calls prog 213 #[.pointer (some ⟨kb,0,none⟩),v,.slice (some ⟨b,0,none⟩) n n] w (dE E ns P T kb b w k (c+1000000) (Em.take cs t k)):=by
 obtain ⟨Z,hZ⟩:=gQx (Em.take cs t k)
 have HZ:Hid (Z=Em.take cs t k):=hZ
 rw[<-hZ]
 obtain ⟨ad,g,cap,rfl,hg,az⟩:=hv.open
 obtain ⟨N,hN⟩:=gQx cs.length
 rw[<-hN] at hg bi ak ⊢
 have HV:Hid ((0<N->ad=some ⟨g,0,none⟩/\¬(P g\/T g))/\(∀(i:Nat) (a:eQ×Int),cs[i]?=some a->∃l r,w.cell? ⟨g,i*2,none⟩=some (.pointer (some ⟨l,r,none⟩))/\w.cell? ⟨g,i*2+1,none⟩=some (.int .i64 a.2)/\A l/\B6 A w l r a.1)/\N=cs.length/\∀y∈cs,xK ns n y.1):=⟨fun hp=>⟨(hg hp).1,ak g (hg hp).2⟩,az,hN,ba⟩
 have Y:Hid (eK E ns P w kb k/\xE T w b t c/\(∀x,P x->¬T x)/\Ro A (fun x=>P x\/T x) w/\t.length=n):=⟨h,hI,hd,hR,hn⟩
 have bm:(N:Int)≤1000000:=by omega
 clear h hI hd hR hn hg az ak ba hZ hN
 go_enter Tryz.func213,Tryz.ntmps213
 go_wp2_with fail
 go_loopg [10] N (fun f i wr=>∃(j:Nat) (kj:Kd) (J:cX),f=N-j/\j≤N/\i=.int .i64 (j:Int)/\Hid (Z=Em.take (cs.drop j) J kj/\J.length=n/\Ul E ns P T (fun _=>False) kb b w k wr kj J (c+j)))
 case atStart=>exact ⟨0,k,t,by omega,by omega,rfl,HZ.out,Y.out.2.2.2.2,P,T,Two.start Y.out.1 Y.out.2.1 Y.out.2.2.1⟩
 case round=>
  obtain ⟨j,kj,J,rfl,hj,rfl,hr⟩:=hrel
  obtain ⟨aa,aj,P1,T1,hT⟩:=hr.out
  by_cases hlt:j<N
  ·obtain ⟨y,hy⟩:∃y:eQ×Int,cs[j]?=some y:=⟨cs[j]'(by rw[<-HV.out.2.2.1];exact hlt),aN4 _⟩
   obtain ⟨l,r,c0,c1,au,ar⟩:=HV.out.2.1 j y hy
   have ac:=HV.out.1 (by omega)
   have kp:=hT.keep Y.out.2.2.2.1
   have c0:=hT.fr.cell c0 ac.2
   have c1:=hT.fr.cell c1 ac.2
   have bb:=aR7 ad g N cap j hlt (fun _=>ac.1)
   have ah:=HV.out.2.2.2 y (aP1 hy)
   obtain ⟨X,hX⟩:=gQx (wr.alloc (.cells #[.pointer (some ⟨l,r,none⟩),.int .i64 y.2] 305))
   obtain ⟨q,hq⟩:=gQx wr.heap.size
   have ax:Below wr.heap.size wr X:=by rw[hX];exact aL _ _
   have ag:X.heap[q]?=some (.cells #[.pointer (some ⟨l,r,none⟩),.int .i64 y.2] 305 (0,0)):=by rw[hX,hq];exact aX wr _
   have D:=hT.below ax.drew
   have ae:bB A A w X.drew:=D.keep Y.out.2.2.2.1
   obtain ⟨I,U,pc,qs,y0,ao,ab⟩:=ar.d
   have y0:X.drew.cell? ⟨l,r,none⟩=_:=cL ae au y0
   have m4:X.drew.cell? ⟨I,U+4,none⟩=_:=cL ae ao ab.2.2.2.2.1
   have ap:=ab.2.2.2.2.2.2.2.2.carry ae
   have a0:Hid (At E ns P1 kb X.drew kj X.drew kj):=At.start D.cm
   have ai:=aA8 (so:=y.2) ah.s ap a0.out.1 (a0.out.ro (D.ro Y.out.2.2.2.1)) hE
   obtain ⟨va,vn,vc,rfl⟩:=ap.sl'
   have bh:Hid (∀x,P1 x->x<X.drew.heap.size):=D.cm.2.2
   have bf:Hid (∀w2,bM P1 X.drew w2->bM (fun x=>P x\/T x) w w2):=fun _ hf=>D.bad hf
   have e0:Hid (Z=(Em.vM y.2 y.1.drawn.sets >>= fun _=>Em.take (cs.drop (j+1)) (Em.eC J y.1.to y.2 y.1.drawn.back)) kj):=by rw[Hid,aa,dT hy];exact Jy
   have HX:Hid (Two E ns P T (fun _=>False) kb b w k P1 T1 X.drew kj J (c+j)/\X.drew.heap[q]?=some (.cells #[.pointer (some ⟨l,r,none⟩),.int .i64 y.2] 305 (0,0))/\(¬P1 q/\¬T1 q)/\J.length=n/\B6 A w l r y.1/\A l/\jE A w I U y.1.drawn pc (.slice va vn vc)/\A I/\xK ns n y.1/\w.cell? ⟨l,r,none⟩=some (.pointer (some ⟨I,U,none⟩))):=⟨D,ag,⟨fun h=>by have:=hT.cm.2.2 q h;omega,fun h=>by have:=hT.im.2 q h;omega⟩,aj,ar,au,ab,ao,ah,by assumption⟩
   have x0:X.cell? ⟨q,0,none⟩=some (.pointer (some ⟨l,r,none⟩)):=aF ag 0 rfl
   have x1:X.cell? ⟨q,1,none⟩=some (.int .i64 y.2):=aF ag 1 rfl
   have bc:X.cell? ⟨l,r,none⟩=some (.pointer (some ⟨I,U,none⟩)):=y0
   have bj:X.cell? ⟨I,U+4,none⟩=some (.slice va vn vc):=m4
   obtain ⟨O,am⟩:=gQx y.2
   have bn:Hid (O=y.2):=am
   rw[<-am] at x1 hX c1 ai e0 HX
   clear hr aa aj hT kp ah ax ag D ae y0 m4 ap ar ab au ao ac hy am
   go_upto_region 3 with fail
   rw[<-hX,<-hq]
   clear hX hq bb c0 c1
   go_region_law (go_simp;go_at_call 208;refine ai.mono ?_;rintro e w1 (⟨rfl,h0,h1⟩|⟨_,k1,rfl,h0,h1⟩);(· exact ⟨rfl,.inl ⟨rfl,e0.out.trans (aH h0.out),bf.out _ (a0.out.2.1.up h1.out)⟩⟩);have a1:Hid (At E ns P1 kb X.drew kj w1 k1):=a0.out.step bh.out h1.out;have e1:Hid _:=e0.out.trans (bind_some h0.out);clear h0 h1 ai)
   all_goals
    have al:=HX.out.1.coder a1.out
    have af:=a1.out.2.1.heap HX.out.2.1 HX.out.2.2.1.1
    have hdr:Below w1.heap.size w1 w1.drew:=⟨rfl,rfl,rfl,aO4 _,fun _ _=>rfl⟩
    have aw:=al.below hdr
    have kp:=al.keep Y.out.2.2.2.1
    have z0:=cL kp HX.out.2.2.2.2.2.1 HX.out.2.2.2.2.2.2.2.2.2
    have z1:=cL kp HX.out.2.2.2.2.2.1 HX.out.2.2.2.2.1.t
    have z6:=cL kp HX.out.2.2.2.2.2.2.2.1 HX.out.2.2.2.2.2.2.1.2.2.2.2.2.2.1
    have u0:=aF af 0 (u:=.pointer (some ⟨l,r,none⟩)) rfl
    have u1:=aF af 1 (u:=.int .i64 O) rfl
    obtain ⟨i0,an⟩:∃i0:Nat,y.1.to=(i0:Int):=⟨y.1.to.toNat,by have:=HX.out.2.2.2.2.2.2.2.2.1.t.1;omega⟩
    rw[an] at z1
    obtain ⟨bk,av⟩:=gQx y.1.drawn.back
    rw[<-av] at z6
    have Q:=tM (i:=i0) O bk aw.im (by rw[HX.out.2.2.2.1];have:=HX.out.2.2.2.2.2.2.2.2.1.t.2;omega) (by omega)
    rw[HX.out.2.2.2.1] at Q
    have e2:Hid (Z=Em.take (cs.drop (j+1)) (Em.eC J i0 O bk) k1):=by rw[an,<-av] at e1;exact e1
    have HW:Hid (Two E ns P T (fun _=>False) kb b w k (Up P1 X.drew w1) T1 w1.drew k1 J (c+j)/\w1.heap[q]?=some (.cells #[.pointer (some ⟨l,r,none⟩),.int .i64 O] 305 (0,0))/\w1.cell? ⟨l,r,none⟩=some (.pointer (some ⟨I,U,none⟩))/\w1.cell? ⟨l,r+1,none⟩=some (.int .i64 (i0:Int))/\w1.cell? ⟨I,U+6,none⟩=some (.bool bk)/\(¬T1 l/\¬T1 I)):=⟨aw,af,z0,z1,z6,((HX.out.1.roT Y.out.2.2.2.1) l HX.out.2.2.2.2.2.1).2,((HX.out.1.roT Y.out.2.2.2.1) I HX.out.2.2.2.2.2.2.2.1).2⟩
    clear al af hdr aw kp an av x0 x1 bc bj a0 e0 a1 e1
    go_wp2_with fail
    go_region_held3 (fun W=>W.cell? ⟨q,0,none⟩=some (.pointer (some ⟨l,r,none⟩))/\W.cell? ⟨q,1,none⟩=some (.int .i64 O)/\W.cell? ⟨l,r,none⟩=some (.pointer (some ⟨I,U,none⟩))/\W.cell? ⟨l,r+1,none⟩=some (.int .i64 (i0:Int))/\W.cell? ⟨I,U+6,none⟩=some (.bool bk)) (first|exact be.out|go_keep)
     ((go_at_call 117;refine Q.mono ?_;rintro e w2 ⟨rfl,h2⟩
       have be:Hid (w2.cell? ⟨q,0,none⟩=some (.pointer (some ⟨l,r,none⟩))/\w2.cell? ⟨q,1,none⟩=some (.int .i64 O)/\w2.cell? ⟨l,r,none⟩=some (.pointer (some ⟨I,U,none⟩))/\w2.cell? ⟨l,r+1,none⟩=some (.int .i64 (i0:Int))/\w2.cell? ⟨I,U+6,none⟩=some (.bool bk)):=by
        have ay:=h2.out.2.heap (show w1.drew.heap[q]?=_ from HW.out.2.1) HX.out.2.2.1.2
        exact ⟨aF ay 0 rfl,aF ay 1 rfl,h2.out.2.cell (show w1.drew.cell? _=_ from HW.out.2.2.1) HW.out.2.2.2.2.2.1,h2.out.2.cell (show w1.drew.cell? _=_ from HW.out.2.2.2.1) HW.out.2.2.2.2.2.1,h2.out.2.cell (show w1.drew.cell? _=_ from HW.out.2.2.2.2.1) HW.out.2.2.2.2.2.2⟩))
    have bg:Hid (Z=Em.take (cs.drop (j+1)) (Em.eC J i0 O bk) k1/\(Em.eC J i0 O bk).length=n/\Ul E ns P T (fun _=>False) kb b w k w2 k1 (Em.eC J i0 O bk) (c+(j+1))):=⟨e2.out,by rw[nJ];exact HX.out.2.2.2.1,_,_,HW.out.1.into h2.out.1 h2.out.2⟩
    clear h2 Q z0 z1 z6 u0 u1 e2 HW
    go_wp2_with fail
    go_roundg (N-(j+1))
    case measure=>omega
    case rel=>exact ⟨j+1,k1,_,rfl,by omega,by go_num,bg.out⟩
  ·obtain rfl:j=N:=by omega
   have HF:Hid (dE E ns P T kb b w k (c+1000000) Z (.returned (.tuple #[])) wr):=.inr ⟨J,kj,rfl,by rw[Hid,aa,HV.out.2.2.1,aR4];rfl,P1,T1,hT.more (by omega)⟩
   clear hr aa aj hT
   go_wp2_with fail
   go_end0
   exact HF.out
end
section
variable {P T X P1 T1 A:Nat->Prop}{w wr w2:World}{kb b E c d:Nat}{ns:List bE}{k kj k2:Kd}{t:cX}
def vH (w:World) (v:Value) (l:List (Int×Bool)):Prop:=w.ownsRow 0 240 2 v l.length (l.flatMap Uu)
theorem Cr:∀l:List (Int×Bool),Rows (fun a cs=>cs=Uu a) l (l.flatMap Uu)
 | []=>rfl
 | a::r=>⟨Uu a,r.flatMap Uu,by simp,rfl,Cr r⟩
theorem vH.open {v:Value}{l:List (Int×Bool)}(h:vH w v l):∃ad g cap,v=.slice ad l.length cap/\l.length≤maxLen/\(0<l.length->ad=some ⟨g,0,none⟩/\v.ownBlock=some g)/\∀(i:Nat) (a:Int×Bool),l[i]?=some a->w.cell? ⟨g,i*2,none⟩=some (.int .i64 a.1)/\w.cell? ⟨g,i*2+1,none⟩=some (.bool a.2):=by
 obtain ⟨ad,g,cap,y,r,n,u⟩:=wU.open (A:=fun x=>v.ownBlock=some x) (k:=2) (fun a c D=>by rw[D];rfl) ⟨h,fun _ h=>h⟩ (Cr l)
 refine ⟨ad,g,cap,y,r,fun j=>⟨(n j).1,(n j).2.1⟩,fun i a s=>?_⟩
 obtain ⟨c,rfl,hx⟩:=u i a s
 exact ⟨hx 0 _ rfl,hx 1 _ rfl⟩
theorem Gx {has:Bool}{a:Int×Bool}{r:List (Int×Bool)}{o:Int}(h:(a.2&&has)=true):Em.iQ has (a::r) o k=(Em.uZ o a.1 >>= fun b'=>Em.iQ has r b') k:=by rw[Em.iQ,if_pos h]
theorem Np {has:Bool}{a:Int×Bool}{r:List (Int×Bool)}{o:Int}(h:(a.2&&has)=false):Em.iQ has (a::r) o k=Em.iQ has r o k:=by rw[Em.iQ,if_neg (by rw[h];simp)]
theorem Ut (hE:E<1000000) {gS o gd od:Nat}{s:eR (St d) (Rg d)}{v:Value}{l:List (Int×Bool)}(hs:vS A w (fH A d w) gS o s gd od) (hv:vH w v l) (aa:∀g,v.ownBlock=some g->¬P g) (h:eK E ns P w kb k) (hR:Ro A P w) :
 Calls prog 216 #[.pointer (some ⟨kb,0,none⟩),.pointer (some ⟨gS,o,none⟩),v] w (fJ E ns P kb w k (Em.iQ (decide (0<s.inside.length)) l (-1) k) (Value.int .i64)):=by
 obtain ⟨X,hX⟩:=gQx (Em.iQ (decide (0<s.inside.length)) l (-1) k)
 have HX:Hid (X=Em.iQ (decide (0<s.inside.length)) l (-1) k):=hX
 rw[<-hX]
 obtain ⟨ad,g,cap,rfl,Z,hg,ae⟩:=hv.open
 obtain ⟨N,hN⟩:=gQx l.length
 rw[<-hN] at Z hg aa ⊢
 obtain ⟨vi,q2,ah⟩:=hs.iy
 obtain ⟨ai,gi,ci,rfl,ag,_⟩:=ah
 obtain ⟨M,Q⟩:=gQx s.inside.length
 rw[<-Q] at q2 ag
 have J:Hid ((0<N->ad=some ⟨g,0,none⟩/\¬P g)/\(∀(i:Nat) (a:Int×Bool),l[i]?=some a->w.cell? ⟨g,i*2,none⟩=some (.int .i64 a.1)/\w.cell? ⟨g,i*2+1,none⟩=some (.bool a.2))/\N=l.length/\M=s.inside.length/\w.cell? ⟨gS,o+2,none⟩=some (.slice ai M ci)/\A gS):=⟨fun hp=>⟨(hg hp).1,aa g (hg hp).2⟩,ae,hN,Q,q2,hs.dA.2⟩
 have HC:Hid (eK E ns P w kb k/\Ro A P w):=⟨h,hR⟩
 have HP:Hid (∀b,P b->b<w.heap.size):=h.2.2
 have ak:(N:Int)≤9223372036854775807:=by unfold maxLen at Z;omega
 clear h hR hg ae aa hX hN hs Z Q q2 hv
 go_enter Tryz.func216,Tryz.ntmps216
 go_wp2_with fail
 go_loopg [7,12] N (fun f ov i wr=>∃(j:Nat) (o2:Int) (kj:Kd),f=N-j/\j≤N/\ov=.int .i64 o2/\i=.int .i64 (j:Int)/\Hid (X=Em.iQ (decide (0<s.inside.length)) (l.drop j) o2 kj/\At E ns P kb w k wr kj))
 case atStart=>exact ⟨0,-1,k,by omega,by omega,rfl,rfl,HX.out,At.start HC.out.1⟩
 case round=>
  obtain ⟨j,o2,kj,rfl,hj,rfl,rfl,hr⟩:=hrel
  obtain ⟨r,n⟩:=hr.out
  by_cases hlt:j<N
  ·obtain ⟨a,ha⟩:∃a:Int×Bool,l[j]?=some a:=⟨l[j]'(by rw[<-J.out.2.2.1];exact hlt),aN4 _⟩
   obtain ⟨c0,c1⟩:=J.out.2.1 j a ha
   have y:=J.out.1 (by omega)
   have c0:=n.2.1.cell c0 y.2
   have c1:=n.2.1.cell c1 y.2
   have O:=aL2 ad g N cap j hlt (fun _=>y.1)
   obtain ⟨Y,I⟩:=gQx (wr.alloc (.cells #[.int .i64 a.1,.bool a.2] 240))
   obtain ⟨q,hq⟩:=gQx wr.heap.size
   have U:Below wr.heap.size wr Y:=by rw[I];exact aL _ _
   have D:Y.heap[q]?=some (.cells #[.int .i64 a.1,.bool a.2] 240 (0,0)):=by rw[I,hq];exact aX wr _
   have hA:=n.below HP.out U
   have x0:=aF D 0 (u:=.int .i64 a.1) rfl
   have x1:=aF D 1 (u:=.bool a.2) rfl
   have z2:=cL (hA.keep HC.out.2) J.out.2.2.2.2.2 J.out.2.2.2.2.1
   rw[dT ha] at r
   obtain ⟨a1,a2⟩:=a
   by_cases hyes:(a2&&decide (0<s.inside.length))=true
   ·have a0:Hid (At E ns P kb w k Y kj):=hA
    have e0:Hid (X=(Em.uZ o2 a1 >>= fun b'=>Em.iQ (decide (0<s.inside.length)) (l.drop (j+1)) b') kj):=r.trans (Gx hyes)
    have af:=pS o2 a1 hA.1 hE
    obtain ⟨rfl,aj⟩:a2=true/\0<M:=by have:=J.out.2.2.2.1;rw[Bool.and_eq_true] at hyes;exact ⟨hyes.1,by have:=of_decide_eq_true hyes.2;omega⟩
    have al:(0:Int)<(M:Int):=by omega
    clear hr r n U D hA hyes y ha aj
    go_upto_region 5 with fail
    rw[<-I,<-hq]
    clear I hq O c0 c1
    go_wp2_with (go_at_call 211;refine af.mono ?_;rintro e w1 (⟨rfl,h0,h1⟩|⟨x1,k1,rfl,h0,h1⟩);(· exact ⟨rfl,At.ran HP.out a0.out e0.out (.inl ⟨rfl,aH h0.out,h1⟩)⟩);have a1:Hid (At E ns P kb w k w1 k1):=a0.out.step HP.out h1.out;have e1:Hid _:=e0.out.trans (bind_some h0.out);clear h0 h1 af)
    go_roundg (N-(j+1))
    case measure=>omega
    case rel=>exact ⟨j+1,x1,k1,rfl,by omega,rfl,by go_num,e1.out,a1.out⟩
   ·have ab:(a2&&decide (0<s.inside.length))=false:=by simpa using hyes
    have ac:Hid (_/\_):=⟨r.trans (Np ab),hA⟩
    have Q:a2=true->¬(0:Int)<(M:Int):=fun e=>by subst e;have:=J.out.2.2.2.1;have h0:¬0<s.inside.length:=fun h=>hyes (by rw[Bool.true_and];exact decide_eq_true h);omega
    clear hr r n U D hA hyes ab y ha
    cases a2 with
    | false=>
     clear Q
     go_upto_region 5 with fail
     rw[<-I,<-hq]
     clear I hq O c0 c1
     go_wp2_with fail
     go_roundg (N-(j+1))
     case measure=>omega
     case rel=>exact ⟨j+1,o2,kj,rfl,by omega,rfl,by go_num,ac.out⟩
    | true=>
     have Q:=Q rfl
     go_upto_region 5 with fail
     rw[<-I,<-hq]
     clear I hq O c0 c1
     go_wp2_with fail
     go_roundg (N-(j+1))
     case measure=>omega
     case rel=>exact ⟨j+1,o2,kj,rfl,by omega,rfl,by go_num,ac.out⟩
  ·obtain rfl:j=N:=by omega
   have HF:Hid (fJ E ns P kb w k X (Value.int .i64) (.returned (.int .i64 o2)) wr):=At.ends n (by rw[r,J.out.2.2.1,aR4];rfl)
   clear hr r n
   go_wp2_with fail
   go_ret
   exact HF.out
end
end Ew
end
end Go.Proofs.YthieaobjdpfcoaaGreatDoor
