import Derived.Test.YthieaobjdpfcoaaGreatDoorUEk0
set_option maxRecDepth 100000
set_option maxHeartbeats 8000000
namespace Go.Proofs.YthieaobjdpfcoaaGreatDoor
section
open Go.RowKit Px
namespace Ew
open Px.Em (Kd Vr eQ eR jP Rg)
open Nx (Nt Sp)
section
variable {P A:Nat->Prop}{w wr w2:World}{kb E d:Nat}{ns:List bE}{k kj k2:Kd}
theorem oJ {F:Nat}{f:Wy->Bool}(hF:F=203\/F=210\/F=231\/F=234) (ar:∀{W:World}{gy oy:Nat}{y:Wy}{p:Option Addr}{q:Value},jE A W gy oy y p q->Calls Tryz.prog F #[.pointer (some ⟨gy,oy,none⟩)] W fun e w'=>e=.returned (.bool (f y))/\w'=W) (hE:E<1000000) {gS o gd od n:Nat}{s:eR (St d) (Rg d)}{so:Int}(hs:vS A w (fH A d w) gS o s gd od) (hK:B9 ns n (eS ns d) s) (h:eK E ns P w kb k) (hR:Ro A P w) :
    Calls Tryz.prog 202 #[.pointer (some ⟨kb,0,none⟩),.pointer (some ⟨gS,o,none⟩),.int .i64 so,.func (.func F) #[] #[]] w (zR E ns P A n kb w k (Em.choose (Em.aJ d) s so f k)):=by
 obtain ⟨X,hX⟩:∃X,X=Em.choose (Em.aJ d) s so f k:=⟨_,rfl⟩
 have HX:Hid (X=Em.gG (Em.aJ d) s so f s.ways so (-1) (-1) [] k):=hX
 rw[<-hX]
 have bf:Hid (∀{W:World}{gy oy:Nat}{y:Wy}{p:Option Addr}{q:Value},jE A W gy oy y p q->Calls Tryz.prog F #[.pointer (some ⟨gy,oy,none⟩)] W fun e w'=>e=.returned (.bool (f y))/\w'=W):=ar
 obtain ⟨i0,hi,bp,bq,bv⟩:=aX6 Xw
 obtain ⟨aw,gw,cw,q1,bi,ay,be⟩:=hs.wy
 obtain ⟨N,hN⟩:∃N,N=s.ways.length:=⟨_,rfl⟩
 rw[<-hN] at q1 bi ay
 have HW:Hid ((0<N->aw=some ⟨gw,0,none⟩/\A gw)/\(∀j y,s.ways[j]?=some y->B6 A w gw (j*3) y)/\N=s.ways.length/\w.cell? ⟨gS,o+1,none⟩=some (.slice aw N cw)):=⟨ay,be,hN,q1⟩
 have HC:Hid (eK E ns P w kb k/\Ro A P w/\vS A w (fH A d w) gS o s gd od/\B9 ns n (eS ns d) s):=⟨h,hR,hs,hK⟩
 have HP:Hid (∀b,P b->b<w.heap.size):=h.2.2
 have bw:(N:Int)≤1000000:=by have:=hK.wl;omega
 clear hs hK h hR hX ar bi ay be hN
 rcases hF with rfl|rfl|rfl|rfl
 all_goals
  go_enter Tryz.func202,Tryz.ntmps202
  go_wp2_with fail
  clear q1
  go_loopg [10,11,12,13,22] N (fun fu lv rv hv tv i wr=>∃(j:Nat) (cs:List (eQ×Int)) (rest ahead l:Int) (kj:Kd) (D:Option Addr) (J:Nat),fu=N-j/\j≤N/\cs.length≤j/\lv=.slice D cs.length J/\rv=.int .i64 rest/\hv=.int .i64 ahead/\tv=.int .i64 l/\i=.int .i64 (j:Int)/\Hid (X=Em.gG (Em.aJ d) s so f (s.ways.drop j) rest ahead l cs kj/\Zf E ns P (fun b=>(Value.slice D cs.length J).ownBlock=some b) kb w k wr kj/\qI A wr (.slice D cs.length J) cs/\(∀g,(Value.slice D cs.length J).ownBlock=some g->w.heap.size≤g)/\∀c∈cs,xK ns n c.1))
  case atStart=>exact ⟨0,[],so,-1,-1,k,none,0,by omega,by omega,by simp,rfl,rfl,rfl,rfl,rfl,HX.out,⟨P,HC.out.1,fun x hx=>⟨.inl hx,by simp[Value.ownBlock]⟩,fun x hx=>by simp[Value.ownBlock] at hx,bM.refl _ _,Int.le_refl _⟩,⟨[],aX2 _ _ _ _,rfl⟩,fun g hg=>by simp[Value.ownBlock] at hg,fun c hc=>by simp at hc⟩
  case round=>
   obtain ⟨j,cs,rest,ahead,l,kj,D,J,rfl,hj,bn,rfl,rfl,rfl,rfl,rfl,hr⟩:=hrel
   obtain ⟨O,⟨P1,p1,p2,p3,p4,p5⟩,Z,ad,aa⟩:=hr.out
   by_cases hlt:j<N
   ·obtain ⟨y,hy⟩:∃y:eQ,s.ways[j]?=some y:=⟨s.ways[j]'(by rw[<-HW.out.2.2.1];exact hlt),aE5 _⟩
    have kp:bB A A w wr:=HC.out.2.1.keep p4
    have az:=(HW.out.1 (by omega)).2
    have ag:=B6.carry kp az (HW.out.2.1 j y hy)
    have ak:=HC.out.2.2.2.wy y (aH8 hy)
    obtain ⟨gy,oy,pc,qs,y0,bo,am⟩:=ag.d
    have bj:=aK9 aw gw N cw j hlt (fun hp=>(HW.out.1 hp).1)
    have q1:=cL kp HC.out.2.2.1.dA.2 HW.out.2.2.2
    rw[dT hy] at O
    have r:=bf.out am
    obtain ⟨fy,ae⟩:∃fy,fy=f y.drawn:=⟨_,rfl⟩
    rw[<-ae] at r
    obtain ⟨oW,af⟩:∃oW,oW=j*3:=⟨_,rfl⟩
    rw[<-af] at bj y0
    by_cases hskip:so=-1\/fy=false
    ·have bk:Hid (X=Em.gG (Em.aJ d) s so f (s.ways.drop (j+1)) rest ahead l cs kj/\Zf E ns P (fun b=>(Value.slice D cs.length J).ownBlock=some b) kb w k wr kj/\qI A wr (.slice D cs.length J) cs/\(∀g,(Value.slice D cs.length J).ownBlock=some g->w.heap.size≤g)/\∀c∈cs,xK ns n c.1):=⟨O.trans (V3 (by rw[<-ae];exact hskip)),⟨P1,p1,p2,p3,p4,p5⟩,Z,ad,aa⟩
     by_cases hso:so=-1
     ·have t:(so == -1)=true:=by simpa using hso
      clear hr O p1 p2 p3 p4 p5 Z ad aa kp ag ak am ae hskip hso hy af r
      go_wp2_with fail
      go_roundg (N-(j+1))
      case measure=>omega
      case rel=>exact ⟨j+1,cs,rest,ahead,l,kj,D,J,rfl,by omega,by omega,rfl,rfl,rfl,rfl,by go_num,bk.out⟩
     ·have t:(so == -1)=false:=by simpa using hso
      obtain rfl:fy=false:=by rcases hskip with h|h;exact absurd h hso;exact h
      clear hr O p1 p2 p3 p4 p5 Z ad aa kp ag ak am ae hskip hso hy af
      go_wp2_with (refine r.mono ?_;rintro e w0 ⟨rfl,ax⟩;obtain rfl:=ax.symm;clear r)
      go_roundg (N-(j+1))
      case measure=>omega
      case rel=>exact ⟨j+1,cs,rest,ahead,l,kj,D,J,rfl,by omega,by omega,rfl,rfl,rfl,rfl,by go_num,bk.out⟩
    ·have t:(so == -1)=false:=by rw[beq_eq_false_iff_ne];exact fun e=>hskip (.inl e)
     obtain rfl:fy=true:=by cases fy;exact absurd (.inr rfl) hskip;rfl
     have aj:Hid (∀b,P1 b->b<wr.heap.size):=p1.2.2
     have an:Hid (∀w2,bM P1 wr w2->bM P w w2):=fun w2 hf=>p4.trans hf fun b hb hq=>(p2 b hq).1.elim id fun h=>absurd h.1 (by omega)
     have a0:Hid (At E ns P1 kb wr kj wr kj):=At.start p1
     have e0:Hid (X=(Em.dU rest ahead >>= fun ai=>Em.pX (Em.aJ d) s y ai >>= fun al=>chK (s:=s) so l f y (s.ways.drop (j+1)) cs ai al) kj):=O.trans (Gj (by rw[<-ae];exact hskip))
     have bc:Ro A P1 wr:=fun b hb=>⟨aH3 (HC.out.2.1 b hb).1 p4.size,fun hp=>(p2 b hp).1.elim (HC.out.2.1 b hb).2 fun h=>absurd h.1 (by have:=(HC.out.2.1 b hb).1;omega)⟩
     have bh:=oL rest ahead a0.out.1 hE
     have HR:Hid (Ro A P1 wr/\vS A wr (fH A d wr) gS o s gd od/\B6 A wr gw oW y/\A gw/\xK ns n y/\(∀x,P1 x->Up P w wr x/\¬((Value.slice D cs.length J).ownBlock=some x))/\(∀x,(Value.slice D cs.length J).ownBlock=some x->x<wr.heap.size)/\bM P w wr/\k.net.places≤kj.net.places/\qI A wr (.slice D cs.length J) cs/\(∀g,(Value.slice D cs.length J).ownBlock=some g->w.heap.size≤g)/\∀c∈cs,xK ns n c.1):=⟨bc,HC.out.2.2.1.carry kp (fH.carry d kp),by rw[af];exact ag,az,ak,p2,p3,p4,p5,Z,ad,aa⟩
     clear hr O p1 p2 p3 p4 p5 Z ad aa kp ag ak am ae hskip hy af bc az bo
     go_upto_region 8 with (refine r.mono ?_;rintro e w0 ⟨rfl,ax⟩;obtain rfl:=ax.symm;clear r)
     go_upto_region 9 with (go_at_call 204;refine bh.mono ?_;rintro e w1 (⟨rfl,h0,Q⟩|⟨x1,k1,rfl,h0,Q⟩);(· exact ⟨rfl,.inl ⟨rfl,e0.out.trans (aH h0.out),an.out _ (a0.out.2.1.up Q.out)⟩⟩);have a1:Hid (At E ns P1 kb wr kj w1 k1):=a0.out.step aj.out Q.out;have e1:Hid _:=e0.out.trans (bind_some h0.out);clear h0 Q bh)
     have kp:=a1.out.keep HR.out.1
     have ba:=Fu (so0:=x1) hE (HR.out.2.1.carry kp (fH.carry d kp)) HC.out.2.2.2 HR.out.2.2.2.1 (B6.carry kp HR.out.2.2.2.1 HR.out.2.2.1) HR.out.2.2.2.2.1 a1.out.1 (a1.out.ro HR.out.1)
     clear kp q1 y0 bj t
     go_upto_region 10 with (go_at_call 229;refine ba.mono ?_;rintro e w2 (⟨rfl,h0,Q⟩|⟨I,k2,rfl,h0,Q⟩);(· exact ⟨rfl,.inl ⟨rfl,e1.out.trans (aH h0.out),an.out _ (a1.out.2.1.up Q.out)⟩⟩);have a2:Hid (At E ns P1 kb wr kj w2 k2):=a1.out.step aj.out Q.out;have e2:Hid _:=e1.out.trans (bind_some h0.out);clear h0 Q ba)
     obtain ⟨xs,ap,ao⟩:=HR.out.2.2.2.2.2.2.2.2.2.1
     have U:w2.ownsRow 0 305 2 (.slice D cs.length J) cs.length xs:=eY (A:=fun b=>(Value.slice D cs.length J).ownBlock=some b) (A':=fun _=>True) ap (fun _ h=>h) fun b hb hl=>⟨trivial,a2.out.2.1.block b hl fun hp=>(HR.out.2.2.2.2.2.1 b hp).2 hb⟩
     have au:Hid (Rows (Zy A wr) cs xs):=ao
     obtain ⟨m,hm⟩:∃m,m=cs.length:=⟨_,rfl⟩
     have HM:Hid (m=cs.length):=hm
     rw[<-hm] at U bn
     have bz:(m:Int)≤1000000:=by omega
     rw[<-hm]
     clear ap ao hm a0 a1 e0 e1
     go_upto_region 11 with (at_builtin;refine wpList_append_own_at _ rfl (.tmp 51) (.tmp 55) 276 rfl 0 305 i0 _ 2 16 Tryz.underlying276 hi bp bq bv rfl (by decide) _ _ _ rfl (U.alloc _) ⟨w2.heap.size,0,none⟩ 1 1 [.pointer (some ⟨gw,oW,none⟩),.int .i64 I] rfl rfl (eN _ _ _) (by intro u hu;simp at hu;rcases hu with rfl|rfl<;>rfl) (by unfold maxLen;omega) (by omega) (by simp) ?_;intro v5 w5 ab ah _ bm;obtain ⟨a5,m5,e5⟩:=aP ab;subst e5)
     have hst:=Yn (v:=.slice D cs.length J) (ob:=.cells #[.pointer (some ⟨gw,oW,none⟩),.int .i64 I] 305) HC.out.2.1 HR.out.1 HR.out.2.2.1 HR.out.2.2.2.1 HR.out.2.2.2.2.1 HR.out.2.2.2.2.2.1 HR.out.2.2.2.2.2.2.1 HR.out.2.2.2.2.2.2.2.1 HR.out.2.2.2.2.2.2.2.2.1 au.out HR.out.2.2.2.2.2.2.2.2.2.2.1 HR.out.2.2.2.2.2.2.2.2.2.2.2 a2.out rfl (by rw[<-HM.out];exact ab) (by rw[<-HM.out];exact ah) (by rw[<-HM.out];exact bm)
     have Y:Hid _:=hst
     clear hst ab ah bm U au
     by_cases hend:I=x1
     ·have HF:Hid (zR E ns P A n kb w k X (.returned (.tuple #[.slice a5 (m+1) m5,.int .i64 so])) w5):=.inr ⟨cs++[(y,I)],so,k2,a5,m+1,m5,rfl,e2.out.trans (Yo hend),Y.out.1,Y.out.2.1,Y.out.2.2.1,Y.out.2.2.2,by rw[aH7,<-HM.out];show m+1=m+1/\m+1≤1000000;omega⟩
      have t:(I==x1)=true:=by simpa using hend
      clear hend Y e2 a2 HR an aj
      go_wp2_with fail
      go_ret2
      exact HF.out
     ·have t:(I==x1)=false:=by simpa using hend
      obtain ⟨⟨P5,p1,p2,p3,p4,p5⟩,g2,g3,g4⟩:=Y.out
      have bb:=pS l I p1 hE
      have e3:Hid (X=(Em.uZ l I >>= fun t=>Em.gG (Em.aJ d) s so f (s.ways.drop (j+1)) x1 I t (cs++[(y,I)])) k2):=e2.out.trans (aG2 hend)
      have HQ:Hid (eK E ns P5 w5 kb k2/\(∀x,P5 x->Up P w w5 x/\¬((Value.slice a5 (m+1) m5).ownBlock=some x))/\(∀x,(Value.slice a5 (m+1) m5).ownBlock=some x->x<w5.heap.size)/\bM P w w5/\k.net.places≤k2.net.places/\qI A w5 (.slice a5 (m+1) m5) (cs++[(y,I)])/\(∀g,(Value.slice a5 (m+1) m5).ownBlock=some g->w.heap.size≤g)/\∀c∈cs++[(y,I)],xK ns n c.1):=⟨p1,p2,p3,p4,p5,g2,g3,g4⟩
      have av:Hid (∀w6,bM P5 w5 w6->bM P w w6):=fun w2 hf=>p4.trans hf fun b hb hq=>(p2 b hq).1.elim id fun h=>absurd h.1 (by omega)
      clear hend Y e2 a2 HR an aj p1 p2 p3 p4 p5 g2 g3 g4
      go_wp2_with (go_at_call 211;refine bb.mono ?_;rintro e w6 (⟨rfl,h0,Q⟩|⟨x6,k6,rfl,h0,Q⟩);(· exact ⟨rfl,.inl ⟨rfl,e3.out.trans (aH h0.out),av.out _ Q.out⟩⟩))
      have br:Hid (X=Em.gG (Em.aJ d) s so f (s.ways.drop (j+1)) x1 I x6 (cs++[(y,I)]) k6/\Zf E ns P (fun b=>(Value.slice a5 (m+1) m5).ownBlock=some b) kb w k w6 k6/\qI A w6 (.slice a5 (m+1) m5) (cs++[(y,I)])/\(∀g,(Value.slice a5 (m+1) m5).ownBlock=some g->w.heap.size≤g)/\∀c∈cs++[(y,I)],xK ns n c.1):=by
       obtain ⟨q1,q2,q3,q4,q5,q6,q7,q8⟩:=HQ.out
       have bu:Ro A P5 w5:=fun b hb=>⟨aH3 (HC.out.2.1 b hb).1 q4.size,fun hp=>(q2 b hp).1.elim (HC.out.2.1 b hb).2 fun h=>absurd h.1 (by have:=(HC.out.2.1 b hb).1;omega)⟩
       exact ⟨e3.out.trans (bind_some h0.out),Zf.next q2 q3 q4 q5 Q.out,q6.keep (bu.keep Q.out.2.1) (fun g hg=>Q.out.2.1.block g (q3 g hg) fun hp=>(q2 g hp).2 hg),q7,q8⟩
      have hlen:(cs++[(y,I)]).length=m+1:=by rw[aH7,<-HM.out];rfl
      clear h0 Q bb e3 HQ av
      go_roundg (N-(j+1))
      case measure=>omega
      case rel=>exact ⟨j+1,cs++[(y,I)],x1,I,x6,k6,a5,m5,rfl,by omega,by rw[hlen];omega,by rw[hlen],rfl,rfl,rfl,by go_num,by rw[hlen];exact br.out⟩
   ·obtain rfl:j=N:=by omega
    have HF:Hid (zR E ns P A n kb w k X (.returned (.tuple #[.slice D cs.length J,.int .i64 l])) wr):=.inr ⟨cs,l,kj,D,cs.length,J,rfl,by rw[Hid,O,HW.out.2.2.1,aK8];rfl,⟨P1,p1,p2,p3,p4,p5⟩,Z,ad,aa,rfl,by omega⟩
    clear hr O p1 p2 p3 p4 p5 Z ad aa
    go_wp2_with fail
    go_ret2
    exact HF.out
theorem Uo (hE:E<1000000) {gS o gd od n:Nat}{s:eR (St d) (Rg d)}{so:Int}(hs:vS A w (fH A d w) gS o s gd od) (hK:B9 ns n (eS ns d) s) (h:eK E ns P w kb k) (hR:Ro A P w) :
    Calls Tryz.prog 202 #[.pointer (some ⟨kb,0,none⟩),.pointer (some ⟨gS,o,none⟩),.int .i64 so,.func (.func 203) #[] #[]] w (zR E ns P A n kb w k (Em.choose (Em.aJ d) s so (fun y=>decide (y.kind=1)) k)):=oJ (.inl rfl) aN0 hE hs hK h hR
theorem Un (hE:E<1000000) {gS o gd od n:Nat}{s:eR (St d) (Rg d)}{so:Int}(hs:vS A w (fH A d w) gS o s gd od) (hK:B9 ns n (eS ns d) s) (h:eK E ns P w kb k) (hR:Ro A P w) :
    Calls Tryz.prog 202 #[.pointer (some ⟨kb,0,none⟩),.pointer (some ⟨gS,o,none⟩),.int .i64 so,.func (.func 210) #[] #[]] w (zR E ns P A n kb w k (Em.choose (Em.aJ d) s so (fun y=>!decide (y.kind=1)) k)):=oJ (.inr (.inl rfl)) aM9 hE hs hK h hR
theorem Um (hE:E<1000000) {gS o gd od n:Nat}{s:eR (St d) (Rg d)}{so:Int}(hs:vS A w (fH A d w) gS o s gd od) (hK:B9 ns n (eS ns d) s) (h:eK E ns P w kb k) (hR:Ro A P w) :
    Calls Tryz.prog 202 #[.pointer (some ⟨kb,0,none⟩),.pointer (some ⟨gS,o,none⟩),.int .i64 so,.func (.func 231) #[] #[]] w (zR E ns P A n kb w k (Em.choose (Em.aJ d) s so (fun y=>y.now&&decide (y.kind=1)) k)):=oJ (.inr (.inr (.inl rfl))) aM8 hE hs hK h hR
theorem Ul (hE:E<1000000) {gS o gd od n:Nat}{s:eR (St d) (Rg d)}{so:Int}(hs:vS A w (fH A d w) gS o s gd od) (hK:B9 ns n (eS ns d) s) (h:eK E ns P w kb k) (hR:Ro A P w) :
    Calls Tryz.prog 202 #[.pointer (some ⟨kb,0,none⟩),.pointer (some ⟨gS,o,none⟩),.int .i64 so,.func (.func 234) #[] #[]] w (zR E ns P A n kb w k (Em.choose (Em.aJ d) s so (fun y=>y.now && !decide (y.kind=1)) k)):=oJ (.inr (.inr (.inr rfl))) aM7 hE hs hK h hR
end
end Ew
end
section
open Go.RowKit Px
namespace Ew
open Px.Em (Kd Vr eQ eR jP Rg cX)
open Nx (Nt Sp)
def Uu (a:Int×Bool):List Value:=[.int .i64 a.1,.bool a.2]
structure IM (T:Nat->Prop) (w:World) (b:Nat) (t:cX) (c:Nat) (vs:List Value) (role:Nat->Nat):Prop where
 hb:w.heap[b]?=some (.cells vs.toArray 238 (0,0))
 len:vs.length=t.length
 row:∀(i:Nat) (v:Value) (l:List (Int×Bool)),vs[i]?=some v->t[i]?=some l->w.ownsRow 0 240 2 v l.length (l.flatMap Uu)
 pb:T b/\role b=0
 pr:∀(i:Nat) (v:Value) (g:Nat),vs[i]?=some v->v.ownBlock=some g->T g/\role g=i+1
 many:∀(i:Nat) (l:List (Int×Bool)),t[i]?=some l->l.length≤c
def xE (T:Nat->Prop) (w:World) (b:Nat) (t:cX) (c:Nat):Prop:=(∃vs role,IM T w b t c vs role)/\∀x,T x->x<w.heap.size
section
variable {T T':Nat->Prop}{w w':World}{b c:Nat}{t:cX}
theorem IM.carry {vs:List Value}{j:Nat->Nat}(h:IM T w b t c vs j) (k:bB T T' w w'):IM T' w' b t c vs j:=by
 have kb:=k b h.pb.1 (aB h.hb)
 refine ⟨by rw[kb.2];exact h.hb,h.len,fun i v l n s=>eY (h.row i v l n s) (fun g r=>(h.pr i v g n r).1) k,⟨kb.1,h.pb.2⟩,fun i v g n r=>?_,h.many⟩
 have u:i<t.length:=by rw[<-h.len];exact (aH6.1 n).1
 exact ⟨(k g (h.pr i v g n r).1 ((h.row i v _ n (aE5 u)).lt g r).2).1,(h.pr i v g n r).2⟩
theorem xE.carry (h:xE T w b t c) (k:bB T T w w') (hs:w.heap.size≤w'.heap.size):xE T w' b t c:=
 ⟨by obtain ⟨⟨vs,role,h1⟩,_⟩:=h;exact ⟨vs,role,h1.carry k⟩,fun x hx=>aH3 (h.2 x hx) hs⟩
theorem xE.more {r:Nat}(h:xE T w b t c) (y:c≤r):xE T w b t r:=by
 obtain ⟨⟨vs,n,j⟩,s⟩:=h
 exact ⟨⟨vs,n,⟨j.hb,j.len,j.row,j.pb,j.pr,fun i l u=>aH5 (j.many i l u) y⟩⟩,s⟩
theorem nJ (i so:Int) (back:Bool):(Em.eC t i so back).length=t.length:=by unfold Em.eC;rw[aO5]
theorem info273:(Tryz.prog.info? 240).map (fun i=>(i.zero,i.size,i.bytes))=some (some (.agg #[.int .i64 0,.bool false]),2,16):=by kernel_rfl
theorem ixA (g n cap j:Nat) (l:j<n) (w:World):(Instr.indexAt 190 (.slice (some ⟨g,0,none⟩) n cap) (.int .i64 (j:Int))).run Tryz.prog w=.ok (.pointer (some ⟨g,j,none⟩)) w:=by
 rw[aX4 _ _ _ _ _ _ _ (by kernel_rfl),if_pos ⟨by omega,by omega⟩]
 have e:(sizeOf (Tryz.prog.elem 190)).run Tryz.prog w=.ok 1 w:=by kernel_rfl
 rw[e]
 simp[Result.andThen,Addr.add]
 try (intro h;exact h.symm)
theorem aL2 (ad:Option Addr) (g n cap j:Nat) (r:j<n) (l:0<n->ad=some ⟨g,0,none⟩) (w:World):(Instr.indexAt 238 (.slice ad n cap) (.int .i64 (j:Int))).run Tryz.prog w=.ok (.pointer (some ⟨g,j*2,none⟩)) w:=by
 obtain rfl:=l (by omega)
 rw[aX4 _ _ _ _ _ _ _ (by kernel_rfl),if_pos ⟨by omega,by omega⟩]
 have e:(sizeOf (Tryz.prog.elem 238)).run Tryz.prog w=.ok 2 w:=by kernel_rfl
 rw[e]
 simp[Result.andThen,Addr.add]
 try (intro h;exact h.symm)
theorem IM.grow {vs:List Value}{n:Nat->Nat}(h:IM T w b t c vs n) (aa:∀x,T x->x<w.heap.size) {i:Nat}{v v5:Value}{l:List (Int×Bool)}{so:Int}{back:Bool}{ob:Obj}{w5:World}(Q:vs[i]?=some v) (hl:t[i]?=some l)
    (I:w5.ownsRow 0 240 2 v5 (l.length+1) (l.flatMap Uu++Uu (so,back))) (Z:(w.alloc ob).grownBy w5 v.ownBlock) (U:v5.ownBlock=v.ownBlock\/v5.ownBlock=some (w.alloc ob).heap.size) :
    xE (Up T w (w5.setCell ⟨b,i,none⟩ v5)) (w5.setCell ⟨b,i,none⟩ v5) b (t.set i (l++[(so,back)])) (c+1)/\bM T w (w5.setCell ⟨b,i,none⟩ v5):=by
 have s3:(w.alloc ob).heap.size=w.heap.size+1:=by simp
 have s4:=Z.size
 have lb:=aB h.hb
 have J:i<vs.length:=(aH6.1 Q).1
 have ne:∀x,x<w.heap.size->n x≠i+1->v5.ownBlock≠some x:=fun x hx O e=>by
  rcases U with D|D
  ·exact O (h.pr i v x Q (D.symm.trans e)).2
  ·rw[e] at D;injection D with D;omega
 have no:∀x,n x≠i+1->v.ownBlock≠some x:=fun x O e=>O (h.pr i v x Q e).2
 have kp:∀x,x<w.heap.size->x≠b->n x≠i+1->(w5.setCell ⟨b,i,none⟩ v5).heap[x]?=w.heap[x]?:=fun x hx hb O=>by
  rw[Below.heap_setCell _ _ _ _ hb,Z.block x (by omega) (fun e=>no x O e.symm),Below.heap_alloc _ _ _ hx]
 have k5:w5.heap[b]?=w.heap[b]?:=by rw[Z.block b (by omega) (fun e=>no b (by rw[h.pb.2];omega) e.symm),Below.heap_alloc _ _ _ lb]
 have Y:bM T w (w5.setCell ⟨b,i,none⟩ v5):=(((bM.refl _ _).alloc ob).grown Z fun x hx=>.inl (h.pr i v x Q hx).1).setCell (.inl h.pb.1) _
 refine ⟨⟨⟨vs.set i v5,fun x=>if v5.ownBlock=some x then i+1 else n x,⟨cH (by rw[k5];exact h.hb) i v5,by rw[aO5,aO5];exact h.len,fun j u m r s=>?_,⟨.inl h.pb.1,?_⟩,fun j u g r y=>?_,fun j m s=>?_⟩⟩,iI aa Y.size⟩,Y⟩
 ·by_cases hj:i=j
  ·subst hj
   rw[List.getElem?_set_self (by omega)] at r
   rw[List.getElem?_set_self (by rw[<-h.len];exact J)] at s
   injection r with r
   injection s with s
   subst r s
   have e2:(l++[(so,back)]).flatMap Uu=l.flatMap Uu++Uu (so,back):=by simp
   rw[aH7,e2]
   refine eY (A:=fun x=>v5.ownBlock=some x) (A':=fun _=>True) I (fun _ h=>h) fun x hx _=>⟨trivial,Below.heap_setCell _ _ _ _ fun e=>?_⟩
   have e:=e
   subst e
   exact ne x lb (by rw[h.pb.2];omega) hx
  ·rw[aR4 hj] at r s
   refine eY (A:=fun x=>u.ownBlock=some x) (A':=fun _=>True) (h.row j u m r s) (fun _ h=>h) fun x hx hl=>⟨trivial,kp x hl (fun e=>?_) ?_⟩
   ·have:=(h.pr j u x r hx).2;rw[e,h.pb.2] at this;omega
   ·rw[(h.pr j u x r hx).2];omega
 ·rw[if_neg (ne b lb (by rw[h.pb.2];omega))];exact h.pb.2
 ·by_cases hj:i=j
  ·subst hj
   rw[List.getElem?_set_self (by omega)] at r
   injection r with r
   subst r
   refine ⟨?_,if_pos y⟩
   rcases U with D|D
   ·exact .inl (h.pr i v g Q (D.symm.trans y)).1
   ·rw[y] at D;injection D with D
    exact .inr ⟨by omega,by simp[World.setCell];exact (I.lt g y).2⟩
  ·rw[aR4 hj] at r
   have hq:=h.pr j u g r y
   have hi:j<t.length:=by rw[<-h.len];exact (aH6.1 r).1
   refine ⟨.inl hq.1,?_⟩
   rw[if_neg (ne g ((h.row j u _ r (aE5 hi)).lt g y).2 (by rw[hq.2];omega))];exact hq.2
 ·by_cases hj:i=j
  ·subst hj
   rw[List.getElem?_set_self (by rw[<-h.len];exact J)] at s
   injection s with s
   subst s
   have:=h.many i l hl
   rw[aH7];show _+1≤_;omega
  ·rw[aR4 hj] at s
   have:=h.many j m s;omega
theorem tM {i:Nat}(so:Int) (back:Bool) (h:xE T w b t c) (Z:i<t.length) (hc:c≤8000000000000) :
    Calls Tryz.prog 117 #[.slice (some ⟨b,0,none⟩) t.length t.length,.int .i64 (i:Int),.int .i64 so,.bool back] w fun e w'=>e=.returned (.tuple #[])/\Hid (xE (Up T w w') w' b (Em.eC t i so back) (c+1)/\bM T w w'):=by
 obtain ⟨⟨vs,Q,s⟩,J⟩:=h
 obtain ⟨i0,ad,ab,ac,ae⟩:=aX6 info273
 obtain ⟨l,U⟩:∃l,t[i]?=some l:=⟨_,aE5 Z⟩
 obtain ⟨v,O⟩:∃v,vs[i]?=some v:=⟨_,aE5 (by rw[s.len];exact Z)⟩
 have hr:=s.row i v l O U
 obtain ⟨Y,cap,rfl⟩:=aP hr
 have c0:w.cell? ⟨b,i,none⟩=some (.slice Y l.length cap):=aA s.hb i (by simpa using O)
 have hm:=s.many i l U
 obtain ⟨m,y⟩:∃m,m=l.length:=⟨_,rfl⟩
 have HM:Hid _:=y
 rw[<-y] at c0 hr hm
 obtain ⟨n,I⟩:∃n,n=t.length:=⟨_,rfl⟩
 rw[<-I] at Z ⊢
 have af:=ixA b n n i Z
 have lb:=aB s.hb
 have HI:Hid (IM T w b t c vs Q/\(∀x,T x->x<w.heap.size)/\t[i]?=some l/\vs[i]?=some (.slice Y l.length cap)/\w.heap[b]?=some (.cells vs.toArray 238 (0,0))/\∀g,(Value.slice Y m cap).ownBlock=some g->g≠b):=⟨s,J,U,O,s.hb,fun g hg e=>by
  have h1:=s.pr i _ g O (by rw[<-y];exact hg)
  rw[e,s.pb.2] at h1;omega⟩
 have HE:Hid (Em.eC t i so back=t.set i (l++[(so,back)])):=by
  unfold Em.eC Hid
  rw[iO,show ((i:Int)).toNat=i by omega,U]
  rfl
 clear s J U O y I
 go_enter Tryz.func117,Tryz.ntmps117
 go_wp2_with (at_builtin;refine wpList_append_own_at _ rfl (.tmp 13) (.tmp 17) 238 rfl 0 240 i0 _ 2 16 Tryz.underlying238 ad ab ac ae rfl (by decide) _ _ _ rfl (hr.alloc _) ⟨w.heap.size,0,none⟩ 1 1 [.int .i64 so,.bool back] rfl rfl (eN _ _ _) (by intro u hu;simp at hu;rcases hu with rfl|rfl<;>rfl) (by unfold maxLen;omega) (by omega) (by simp) ?_;intro v5 w5 j r _ aa;obtain ⟨a5,m5,e5⟩:=aP j;subst e5;have D:w5.heap[b]?=some (.cells vs.toArray 238 (0,0)):=by { rw[r.block b (by simp;omega) (fun e=>(HI.out.2.2.2.2.2 b e.symm) rfl),eB HI.out.2.2.2.2.1] };have d1:w5.cell? ⟨b,i,none⟩=some (.slice Y m cap):=by { rw[HM.out];exact aA D i (by simpa using HI.out.2.2.2.1) };have f1:=aG D i)
 go_end0
 obtain ⟨h1,h2,h3,h4,_⟩:=HI.out
 have hg:=h1.grow h2 (so:=so) (back:=back) (ob:=.cells #[.int .i64 so,.bool back] 240) (v5:=.slice a5 (m+1) m5) h4 h3 (by rw[<-HM.out];exact j) (by rw[<-HM.out];exact r) (by rw[<-HM.out];exact aa)
 rw[HE.out]
 exact ⟨rfl,hg.1,hg.2⟩
end
structure Two (E:Nat) (ns:List bE) (P T X:Nat->Prop) (kb b:Nat) (w:World) (k:Kd) (P1 T1:Nat->Prop) (wr:World) (kj:Kd) (t:cX) (c:Nat):Prop where
 cm:eK E ns P1 wr kb kj
 im:xE T1 wr b t c
 dis:∀x,P1 x->¬T1 x
 up:∀x,P1 x->Up P w wr x/\¬X x
 ut:∀x,T1 x->Up T w wr x/\¬X x
 xl:∀x,X x->x<wr.heap.size
 fr:bM (fun x=>P x\/T x) w wr
 pl:k.net.places≤kj.net.places
def AtI (E:Nat) (ns:List bE) (P T X:Nat->Prop) (kb b:Nat) (w:World) (k:Kd) (wr:World) (kj:Kd) (t:cX) (c:Nat):Prop:=∃P1 T1,Two E ns P T X kb b w k P1 T1 wr kj t c
def dE (E:Nat) (ns:List bE) (P T:Nat->Prop) (kb b:Nat) (w:World) (k:Kd) (c:Nat) (o:Option (cX×Kd)) (e:Ending) (w':World):Prop:=
 (e=Vl/\Hid (o=none)/\Hid (bM (fun x=>P x\/T x) w w'))\/∃t k',e=.returned (.tuple #[])/\Hid (o=some (t,k'))/\Hid (AtI E ns P T (fun _=>False) kb b w k w' k' t c)
section
variable {P T X P1 T1 A:Nat->Prop}{w wr w2:World}{kb b E c:Nat}{ns:List bE}{k kj k2:Kd}{t:cX}
theorem Two.start (h:eK E ns P w kb k) (hI:xE T w b t c) (hd:∀x,P x->¬T x):Two E ns P T (fun _=>False) kb b w k P T w k t c:=
 ⟨h,hI,hd,fun _ h=>⟨.inl h,id⟩,fun _ h=>⟨.inl h,id⟩,fun _ h=>h.elim,bM.refl _ _,Int.le_refl _⟩
theorem Two.bad (h:Two E ns P T X kb b w k P1 T1 wr kj t c) (hf:bM P1 wr w2):bM (fun x=>P x\/T x) w w2:=h.fr.trans hf fun b hb hq=>(h.up b hq).1.elim .inl fun h=>absurd h.1 (by omega)
theorem Two.coder (h:Two E ns P T X kb b w k P1 T1 wr kj t c) (j:At E ns P1 kb wr kj w2 k2):Two E ns P T X kb b w k (Up P1 wr w2) T1 w2 k2 t c:=by
 have l:=j.2.1.size
 have u:=h.fr.size
 refine ⟨j.1,h.im.carry (j.2.1.keep fun x hx s=>h.dis x s hx) l,fun x hx n=>?_,fun x hx=>?_,fun x hx=>⟨Up.size l x (h.ut x hx).1,(h.ut x hx).2⟩,fun x hx=>aH3 (h.xl x hx) l,h.bad j.2.1,aW6 h.pl j.2.2⟩
 ·rcases hx with hx|hx
  ·exact h.dis x hx n
  ·have:=h.im.2 x n;omega
 ·rcases hx with hx|hx
  ·exact ⟨Up.size l x (h.up x hx).1,(h.up x hx).2⟩
  ·exact ⟨.inr ⟨by omega,hx.2⟩,fun r=>absurd (h.xl x r) (by omega)⟩
theorem Two.into {r:cX}{s:Nat}(h:Two E ns P T X kb b w k P1 T1 wr kj t c) (u:xE (Up T1 wr w2) w2 b r s) (n:bM T1 wr w2):Two E ns P T X kb b w k P1 (Up T1 wr w2) w2 kj r s:=by
 have l:=n.size
 have J:=h.fr.size
 have I:bB P1 P1 wr w2:=n.keep fun x hx=>h.dis x hx
 refine ⟨⟨h.cm.1.imp fun _ h=>h.carry I,h.cm.2.1,fun x hx=>aH3 (h.cm.2.2 x hx) l⟩,u,fun x hx j=>?_,fun x hx=>⟨Up.size l x (h.up x hx).1,(h.up x hx).2⟩,fun x hx=>?_,fun x hx=>aH3 (h.xl x hx) l,h.fr.trans n fun b hb D=>(h.ut b D).1.elim .inr fun h=>absurd h.1 (by omega),h.pl⟩
 ·rcases j with j|j
  ·exact h.dis x hx j
  ·have:=h.cm.2.2 x hx;omega
 ·rcases hx with hx|hx
  ·exact ⟨Up.size l x (h.ut x hx).1,(h.ut x hx).2⟩
  ·exact ⟨.inr ⟨by omega,hx.2⟩,fun y=>absurd (h.xl x y) (by omega)⟩
theorem Two.below (h:Two E ns P T X kb b w k P1 T1 wr kj t c) (hb:Below wr.heap.size wr w2):Two E ns P T X kb b w k P1 T1 w2 kj t c:=
 ⟨h.cm.below hb,h.im.carry (fun x hx hl=>⟨hx,hb.block x hl⟩) hb.size,h.dis,fun x hx=>⟨Up.size hb.size x (h.up x hx).1,(h.up x hx).2⟩,fun x hx=>⟨Up.size hb.size x (h.ut x hx).1,(h.ut x hx).2⟩,fun x hx=>aH3 (h.xl x hx) hb.size,h.fr.trans (bM.of_below (P:=fun _=>False) hb) fun _ _ h=>h.elim,h.pl⟩
theorem Two.more {c':Nat}(h:Two E ns P T X kb b w k P1 T1 wr kj t c) (hc:c≤c'):Two E ns P T X kb b w k P1 T1 wr kj t c':=⟨h.cm,h.im.more hc,h.dis,h.up,h.ut,h.xl,h.fr,h.pl⟩
theorem Two.ro (h:Two E ns P T X kb b w k P1 T1 wr kj t c) (hR:Ro A (fun x=>P x\/T x) w):Ro A P1 wr:=fun x hx=>⟨aH3 (hR x hx).1 h.fr.size,fun hp=>(h.up x hp).1.elim (fun h=>(hR x hx).2 (.inl h)) fun h=>absurd h.1 (by have:=(hR x hx).1;omega)⟩
theorem Two.roT (h:Two E ns P T X kb b w k P1 T1 wr kj t c) (hR:Ro A (fun x=>P x\/T x) w):Ro A T1 wr:=fun x hx=>⟨aH3 (hR x hx).1 h.fr.size,fun hp=>(h.ut x hp).1.elim (fun h=>(hR x hx).2 (.inr h)) fun h=>absurd h.1 (by have:=(hR x hx).1;omega)⟩
theorem Two.keep (h:Two E ns P T X kb b w k P1 T1 wr kj t c) (hR:Ro A (fun x=>P x\/T x) w):bB A A w wr:=hR.keep h.fr
end
end Ew
end
section
open Go.RowKit Px
namespace Ew
open Px.Em (Kd Vr eQ eR jP Rg cX)
open Nx (Nt Sp)
section
variable {P T X P1 T1 A:Nat->Prop}{w wr w2:World}{kb b E c:Nat}{ns:List bE}{k kj k2:Kd}{t:cX}
theorem Jy {y:eQ×Int}{r:List (eQ×Int)}:Em.take (y::r) t k=(Em.vM y.2 y.1.drawn.sets >>= fun _=>Em.take r (Em.eC t y.1.to y.2 y.1.drawn.back)) k:=rfl
theorem aR7 (ad:Option Addr) (g n cap j:Nat) (r:j<n) (l:0<n->ad=some ⟨g,0,none⟩) (w:World):(Instr.indexAt 276 (.slice ad n cap) (.int .i64 (j:Int))).run Tryz.prog w=.ok (.pointer (some ⟨g,j*2,none⟩)) w:=by
 obtain rfl:=l (by omega)
 rw[aX4 _ _ _ _ _ _ _ (by kernel_rfl),if_pos ⟨by omega,by omega⟩]
 have e:(sizeOf (Tryz.prog.elem 276)).run Tryz.prog w=.ok 2 w:=by kernel_rfl
 rw[e]
 simp[Result.andThen,Addr.add]
 try (intro h;exact h.symm)
theorem qI.open {v:Value}{cs:List (eQ×Int)}(h:qI A w v cs):∃ad g cap,v=.slice ad cs.length cap/\(0<cs.length->ad=some ⟨g,0,none⟩/\v.ownBlock=some g)/\∀(i:Nat) (a:eQ×Int),cs[i]?=some a->∃gW oW,w.cell? ⟨g,i*2,none⟩=some (.pointer (some ⟨gW,oW,none⟩))/\w.cell? ⟨g,i*2+1,none⟩=some (.int .i64 a.2)/\A gW/\B6 A w gW oW a.1:=by
 obtain ⟨O,D,s⟩:=h
 obtain ⟨ad,g,cap,n,J,l,I⟩:=wU.open (A:=fun x=>v.ownBlock=some x) (k:=2) (fun a c ⟨_,_,hc,_⟩=>by rw[hc];rfl) ⟨D,fun _ h=>h⟩ s
 refine ⟨ad,g,cap,n,fun j=>⟨(l j).1,(l j).2.1⟩,fun i a y=>?_⟩
 obtain ⟨c,⟨gW,oW,rfl,r,u⟩,hx⟩:=I i a y
 exact ⟨gW,oW,hx 0 _ rfl,hx 1 _ rfl,r,u⟩
theorem dS (hE:E<1000000) {n:Nat}{v:Value}{cs:List (eQ×Int)}(hv:qI A w v cs) (ap:∀g,v.ownBlock=some g->¬(P g\/T g)) (ax:∀y∈cs,xK ns n y.1) (hn:t.length=n) (bc:cs.length≤1000000) (h:eK E ns P w kb k) (hI:xE T w b t c) (hd:∀x,P x->¬T x) (hR:Ro A (fun x=>P x\/T x) w) (hc:c≤7000000000000) :
    Calls Tryz.prog 213 #[.pointer (some ⟨kb,0,none⟩),v,.slice (some ⟨b,0,none⟩) n n] w (dE E ns P T kb b w k (c+1000000) (Em.take cs t k)):=by
 obtain ⟨Z,hZ⟩:∃Z,Z=Em.take cs t k:=⟨_,rfl⟩
 have HZ:Hid (Z=Em.take cs t k):=hZ
 rw[<-hZ]
 obtain ⟨ad,g,cap,rfl,hg,ba⟩:=hv.open
 obtain ⟨N,hN⟩:∃N,N=cs.length:=⟨_,rfl⟩
 rw[<-hN] at hg bc ap ⊢
 have HV:Hid ((0<N->ad=some ⟨g,0,none⟩/\¬(P g\/T g))/\(∀(i:Nat) (a:eQ×Int),cs[i]?=some a->∃l r,w.cell? ⟨g,i*2,none⟩=some (.pointer (some ⟨l,r,none⟩))/\w.cell? ⟨g,i*2+1,none⟩=some (.int .i64 a.2)/\A l/\B6 A w l r a.1)/\N=cs.length/\∀y∈cs,xK ns n y.1):=⟨fun hp=>⟨(hg hp).1,ap g (hg hp).2⟩,ba,hN,ax⟩
 have HC:Hid (eK E ns P w kb k/\xE T w b t c/\(∀x,P x->¬T x)/\Ro A (fun x=>P x\/T x) w/\t.length=n):=⟨h,hI,hd,hR,hn⟩
 have bo:(N:Int)≤1000000:=by omega
 clear h hI hd hR hn hg ba ap ax hZ hN
 go_enter Tryz.func213,Tryz.ntmps213
 go_wp2_with fail
 go_loopg [10] N (fun f i wr=>∃(j:Nat) (kj:Kd) (J:cX),f=N-j/\j≤N/\i=.int .i64 (j:Int)/\Hid (Z=Em.take (cs.drop j) J kj/\J.length=n/\AtI E ns P T (fun _=>False) kb b w k wr kj J (c+j)))
 case atStart=>exact ⟨0,k,t,by omega,by omega,rfl,HZ.out,HC.out.2.2.2.2,P,T,Two.start HC.out.1 HC.out.2.1 HC.out.2.2.1⟩
 case round=>
  obtain ⟨j,kj,J,rfl,hj,rfl,hr⟩:=hrel
  obtain ⟨aa,ah,P1,T1,hT⟩:=hr.out
  by_cases hlt:j<N
  ·obtain ⟨y,hy⟩:∃y:eQ×Int,cs[j]?=some y:=⟨cs[j]'(by rw[<-HV.out.2.2.1];exact hlt),aE5 _⟩
   obtain ⟨l,r,c0,c1,al,am⟩:=HV.out.2.1 j y hy
   have ab:=HV.out.1 (by omega)
   have kp:=hT.keep HC.out.2.2.2.1
   have c0:=hT.fr.cell c0 ab.2
   have c1:=hT.fr.cell c1 ab.2
   have bf:=aR7 ad g N cap j hlt (fun _=>ab.1)
   have av:=HV.out.2.2.2 y (aH8 hy)
   obtain ⟨X,hX⟩:∃X,X=wr.alloc (.cells #[.pointer (some ⟨l,r,none⟩),.int .i64 y.2] 305):=⟨_,rfl⟩
   obtain ⟨q,hq⟩:∃q,q=wr.heap.size:=⟨_,rfl⟩
   have az:Below wr.heap.size wr X:=by rw[hX];exact aC _ _
   have ae:X.heap[q]?=some (.cells #[.pointer (some ⟨l,r,none⟩),.int .i64 y.2] 305 (0,0)):=by rw[hX,hq];exact aX wr _
   have D:=hT.below az.drew
   have ag:bB A A w X.drew:=D.keep HC.out.2.2.2.1
   obtain ⟨I,U,pc,qs,y0,ai,ac⟩:=am.d
   have y0:X.drew.cell? ⟨l,r,none⟩=_:=cL ag al y0
   have m4:X.drew.cell? ⟨I,U+4,none⟩=_:=cL ag ai ac.2.2.2.2.1
   have au:=ac.2.2.2.2.2.2.2.2.carry ag
   have a0:Hid (At E ns P1 kb X.drew kj X.drew kj):=At.start D.cm
   have ak:=vL (so:=y.2) av.s au a0.out.1 (a0.out.ro (D.ro HC.out.2.2.2.1)) hE
   obtain ⟨va,vn,vc,rfl⟩:=au.sl'
   have bi:Hid (∀x,P1 x->x<X.drew.heap.size):=D.cm.2.2
   have bm:Hid (∀w2,bM P1 X.drew w2->bM (fun x=>P x\/T x) w w2):=fun _ hf=>D.bad hf
   have e0:Hid (Z=(Em.vM y.2 y.1.drawn.sets >>= fun _=>Em.take (cs.drop (j+1)) (Em.eC J y.1.to y.2 y.1.drawn.back)) kj):=by rw[Hid,aa,dT hy];exact Jy
   have HX:Hid (Two E ns P T (fun _=>False) kb b w k P1 T1 X.drew kj J (c+j)/\X.drew.heap[q]?=some (.cells #[.pointer (some ⟨l,r,none⟩),.int .i64 y.2] 305 (0,0))/\(¬P1 q/\¬T1 q)/\J.length=n/\B6 A w l r y.1/\A l/\jE A w I U y.1.drawn pc (.slice va vn vc)/\A I/\xK ns n y.1/\w.cell? ⟨l,r,none⟩=some (.pointer (some ⟨I,U,none⟩))):=⟨D,ae,⟨fun h=>by have:=hT.cm.2.2 q h;omega,fun h=>by have:=hT.im.2 q h;omega⟩,ah,am,al,ac,ai,av,by assumption⟩
   have x0:X.cell? ⟨q,0,none⟩=some (.pointer (some ⟨l,r,none⟩)):=aA ae 0 rfl
   have x1:X.cell? ⟨q,1,none⟩=some (.int .i64 y.2):=aA ae 1 rfl
   have bb:X.cell? ⟨l,r,none⟩=some (.pointer (some ⟨I,U,none⟩)):=y0
   have bj:X.cell? ⟨I,U+4,none⟩=some (.slice va vn vc):=m4
   obtain ⟨O,aw⟩:∃O,O=y.2:=⟨_,rfl⟩
   have bn:Hid (O=y.2):=aw
   rw[<-aw] at x1 hX c1 ak e0 HX
   clear hr aa ah hT kp av az ae D ag y0 m4 au am ac al ai ab hy aw
   go_upto_region 3 with fail
   rw[<-hX,<-hq]
   clear hX hq bf c0 c1
   go_region_law (go_simp;go_at_call 208;refine ak.mono ?_;rintro e w1 (⟨rfl,h0,h1⟩|⟨_,k1,rfl,h0,h1⟩);(· exact ⟨rfl,.inl ⟨rfl,e0.out.trans (aH h0.out),bm.out _ (a0.out.2.1.up h1.out)⟩⟩);have a1:Hid (At E ns P1 kb X.drew kj w1 k1):=a0.out.step bi.out h1.out;have e1:Hid _:=e0.out.trans (bind_some h0.out);clear h0 h1 ak)
   all_goals
    have ao:=HX.out.1.coder a1.out
    have af:=a1.out.2.1.heap HX.out.2.1 HX.out.2.2.1.1
    have hdr:Below w1.heap.size w1 w1.drew:=⟨rfl,rfl,rfl,aF4 _,fun _ _=>rfl⟩
    have an:=ao.below hdr
    have kp:=ao.keep HC.out.2.2.2.1
    have z0:=cL kp HX.out.2.2.2.2.2.1 HX.out.2.2.2.2.2.2.2.2.2
    have z1:=cL kp HX.out.2.2.2.2.2.1 HX.out.2.2.2.2.1.t
    have z6:=cL kp HX.out.2.2.2.2.2.2.2.1 HX.out.2.2.2.2.2.2.1.2.2.2.2.2.2.1
    have u0:=aA af 0 (u:=.pointer (some ⟨l,r,none⟩)) rfl
    have u1:=aA af 1 (u:=.int .i64 O) rfl
    obtain ⟨i0,aj⟩:∃i0:Nat,y.1.to=(i0:Int):=⟨y.1.to.toNat,by have:=HX.out.2.2.2.2.2.2.2.2.1.t.1;omega⟩
    rw[aj] at z1
    obtain ⟨Y,ar⟩:∃Y,Y=y.1.drawn.back:=⟨_,rfl⟩
    rw[<-ar] at z6
    have Q:=tM (i:=i0) O Y an.im (by rw[HX.out.2.2.2.1];have:=HX.out.2.2.2.2.2.2.2.2.1.t.2;omega) (by omega)
    rw[HX.out.2.2.2.1] at Q
    have e2:Hid (Z=Em.take (cs.drop (j+1)) (Em.eC J i0 O Y) k1):=by rw[aj,<-ar] at e1;exact e1
    have HW:Hid (Two E ns P T (fun _=>False) kb b w k (Up P1 X.drew w1) T1 w1.drew k1 J (c+j)/\w1.heap[q]?=some (.cells #[.pointer (some ⟨l,r,none⟩),.int .i64 O] 305 (0,0))/\w1.cell? ⟨l,r,none⟩=some (.pointer (some ⟨I,U,none⟩))/\w1.cell? ⟨l,r+1,none⟩=some (.int .i64 (i0:Int))/\w1.cell? ⟨I,U+6,none⟩=some (.bool Y)/\(¬T1 l/\¬T1 I)):=⟨an,af,z0,z1,z6,((HX.out.1.roT HC.out.2.2.2.1) l HX.out.2.2.2.2.2.1).2,((HX.out.1.roT HC.out.2.2.2.1) I HX.out.2.2.2.2.2.2.2.1).2⟩
    clear ao af hdr an kp aj ar x0 x1 bb bj a0 e0 a1 e1
    go_wp2_with fail
    go_region_held3 (fun W=>W.cell? ⟨q,0,none⟩=some (.pointer (some ⟨l,r,none⟩))/\W.cell? ⟨q,1,none⟩=some (.int .i64 O)/\W.cell? ⟨l,r,none⟩=some (.pointer (some ⟨I,U,none⟩))/\W.cell? ⟨l,r+1,none⟩=some (.int .i64 (i0:Int))/\W.cell? ⟨I,U+6,none⟩=some (.bool Y)) (first|exact be.out|go_keep)
     ((go_at_call 117;refine Q.mono ?_;rintro e w2 ⟨rfl,h2⟩
       have be:Hid (w2.cell? ⟨q,0,none⟩=some (.pointer (some ⟨l,r,none⟩))/\w2.cell? ⟨q,1,none⟩=some (.int .i64 O)/\w2.cell? ⟨l,r,none⟩=some (.pointer (some ⟨I,U,none⟩))/\w2.cell? ⟨l,r+1,none⟩=some (.int .i64 (i0:Int))/\w2.cell? ⟨I,U+6,none⟩=some (.bool Y)):=by
        have ay:=h2.out.2.heap (show w1.drew.heap[q]?=_ from HW.out.2.1) HX.out.2.2.1.2
        exact ⟨aA ay 0 rfl,aA ay 1 rfl,h2.out.2.cell (show w1.drew.cell? _=_ from HW.out.2.2.1) HW.out.2.2.2.2.2.1,h2.out.2.cell (show w1.drew.cell? _=_ from HW.out.2.2.2.1) HW.out.2.2.2.2.2.1,h2.out.2.cell (show w1.drew.cell? _=_ from HW.out.2.2.2.2.1) HW.out.2.2.2.2.2.2⟩))
    have bh:Hid (Z=Em.take (cs.drop (j+1)) (Em.eC J i0 O Y) k1/\(Em.eC J i0 O Y).length=n/\AtI E ns P T (fun _=>False) kb b w k w2 k1 (Em.eC J i0 O Y) (c+(j+1))):=⟨e2.out,by rw[nJ];exact HX.out.2.2.2.1,_,_,HW.out.1.into h2.out.1 h2.out.2⟩
    clear h2 Q z0 z1 z6 u0 u1 e2 HW
    go_wp2_with fail
    go_roundg (N-(j+1))
    case measure=>omega
    case rel=>exact ⟨j+1,k1,_,rfl,by omega,by go_num,bh.out⟩
  ·obtain rfl:j=N:=by omega
   have HF:Hid (dE E ns P T kb b w k (c+1000000) Z (.returned (.tuple #[])) wr):=.inr ⟨J,kj,rfl,by rw[Hid,aa,HV.out.2.2.1,aK8];rfl,P1,T1,hT.more (by omega)⟩
   clear hr aa ah hT
   go_wp2_with fail
   go_end0
   exact HF.out
end
end Ew
end
end Go.Proofs.YthieaobjdpfcoaaGreatDoor
