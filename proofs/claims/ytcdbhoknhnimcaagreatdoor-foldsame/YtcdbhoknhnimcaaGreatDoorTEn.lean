import Derived.Test.YtcdbhoknhnimcaaGreatDoorTEk0
set_option maxRecDepth 100000
set_option maxHeartbeats 8000000
namespace Go.Proofs.YtcdbhoknhnimcaaGreatDoor
section
open Go.RowKit Px
namespace Ew
open Px.Em (Kd Vr eL eM jG Rg)
open Nx (Nt Sp)
section
variable {P A:Nat->Prop}{w wr w2:World}{kb E d:Nat}{ns:List bB}{k kj k2:Kd}
theorem nO {F:Nat}{f:Wy->Bool}(hF:F=231\/F=238\/F=259\/F=262) (hask:∀{W:World}{gy oy:Nat}{y:Wy}{p:Option Addr}{q:Value},iV A W gy oy y p q->Calls Tryz.prog F #[.pointer (some ⟨gy,oy,none⟩)] W fun e w'=>e=.returned (.bool (f y))/\w'=W) (hE:E<1000000) {gS o gd od n:Nat}{s:eM (St d) (Rg d)}{so:Int}(hs:uG A w (eV A d w) gS o s gd od) (hK:zA ns n (eN ns d) s) (h:eG E ns P w kb k) (hR:Ro A P w) :
    Calls Tryz.prog 230 #[.pointer (some ⟨kb,0,none⟩),.pointer (some ⟨gS,o,none⟩),.int .i64 so,.func (.func F) #[] #[]] w (yH E ns P A n kb w k (Em.choose (Em.aG d) s so f k)):=by
 obtain ⟨X,hX⟩:∃X,X=Em.choose (Em.aG d) s so f k:=⟨_,rfl⟩
 have HX:Hid (X=Em.fY (Em.aG d) s so f s.ways so (-1) (-1) [] k):=hX
 rw[<-hX]
 have HASK:Hid (∀{W:World}{gy oy:Nat}{y:Wy}{p:Option Addr}{q:Value},iV A W gy oy y p q->Calls Tryz.prog F #[.pointer (some ⟨gy,oy,none⟩)] W fun e w'=>e=.returned (.bool (f y))/\w'=W):=hask
 obtain ⟨i0,hi,hz0,hz1,hz2⟩:=info_parts Vn
 obtain ⟨aw,gw,cw,q1,hmx,hgw,hwy⟩:=hs.wy
 obtain ⟨N,hN⟩:∃N,N=s.ways.length:=⟨_,rfl⟩
 rw[<-hN] at q1 hmx hgw
 have HW:Hid ((0<N->aw=some ⟨gw,0,none⟩/\A gw)/\(∀j y,s.ways[j]?=some y->yX A w gw (j*3) y)/\N=s.ways.length/\w.cell? ⟨gS,o+1,none⟩=some (.slice aw N cw)):=⟨hgw,hwy,hN,q1⟩
 have HC:Hid (eG E ns P w kb k/\Ro A P w/\uG A w (eV A d w) gS o s gd od/\zA ns n (eN ns d) s):=⟨h,hR,hs,hK⟩
 have HP:Hid (∀b,P b->b<w.heap.size):=h.2.2
 have hN6:(N:Int)≤1000000:=by have:=hK.wl;omega
 clear hs hK h hR hX hask hmx hgw hwy hN
 rcases hF with rfl|rfl|rfl|rfl
 all_goals
  go_enter Tryz.func230,Tryz.ntmps230
  go_wp2_with fail
  clear q1
  go_loopg [10,11,12,13,22] N (fun fu lv rv hv tv i wr=>∃(j:Nat) (cs:List (eL×Int)) (rest ahead taken:Int) (kj:Kd) (ac:Option Addr) (cc:Nat),fu=N-j/\j≤N/\cs.length≤j/\lv=.slice ac cs.length cc/\rv=.int .i64 rest/\hv=.int .i64 ahead/\tv=.int .i64 taken/\i=.int .i64 (j:Int)/\Hid (X=Em.fY (Em.aG d) s so f (s.ways.drop j) rest ahead taken cs kj/\Xb E ns P (fun b=>(Value.slice ac cs.length cc).ownBlock=some b) kb w k wr kj/\pQ A wr (.slice ac cs.length cc) cs/\(∀g,(Value.slice ac cs.length cc).ownBlock=some g->w.heap.size≤g)/\∀c∈cs,vS ns n c.1))
  case atStart=>exact ⟨0,[],so,-1,-1,k,none,0,by omega,by omega,by simp,rfl,rfl,rfl,rfl,rfl,HX.out,⟨P,HC.out.1,fun x hx=>⟨.inl hx,by simp[Value.ownBlock]⟩,fun x hx=>by simp[Value.ownBlock] at hx,bH.refl _ _,Int.le_refl _⟩,⟨[],World.ownsRow_nil _ _ _ _,rfl⟩,fun g hg=>by simp[Value.ownBlock] at hg,fun c hc=>by simp at hc⟩
  case round=>
   obtain ⟨j,cs,rest,ahead,taken,kj,ac,cc,rfl,hj,hcl,rfl,rfl,rfl,rfl,rfl,hr⟩:=hrel
   obtain ⟨hr1,⟨P1,p1,p2,p3,p4,p5⟩,hr3,hr4,hr5⟩:=hr.out
   by_cases hlt:j<N
   ·obtain ⟨y,hy⟩:∃y:eL,s.ways[j]?=some y:=⟨s.ways[j]'(by rw[<-HW.out.2.2.1];exact hlt),List.getElem?_eq_getElem _⟩
    have kp:aX A A w wr:=HC.out.2.1.keep p4
    have hAw:=(HW.out.1 (by omega)).2
    have hyw:=yX.carry kp hAw (HW.out.2.1 j y hy)
    have hyK:=HC.out.2.2.2.wy y (List.mem_of_getElem? hy)
    obtain ⟨gy,oy,pc,qs,y0,hAy,hwm⟩:=hyw.d
    have hix:=aE5 aw gw N cw j hlt (fun hp=>(HW.out.1 hp).1)
    have q1:=cF kp HC.out.2.2.1.dA.2 HW.out.2.2.2
    rw[dR hy] at hr1
    have hcl2:=HASK.out hwm
    obtain ⟨fy,hfy⟩:∃fy,fy=f y.drawn:=⟨_,rfl⟩
    rw[<-hfy] at hcl2
    obtain ⟨oW,hoW⟩:∃oW,oW=j*3:=⟨_,rfl⟩
    rw[<-hoW] at hix y0
    by_cases hskip:so=-1\/fy=false
    ·have HN2:Hid (X=Em.fY (Em.aG d) s so f (s.ways.drop (j+1)) rest ahead taken cs kj/\Xb E ns P (fun b=>(Value.slice ac cs.length cc).ownBlock=some b) kb w k wr kj/\pQ A wr (.slice ac cs.length cc) cs/\(∀g,(Value.slice ac cs.length cc).ownBlock=some g->w.heap.size≤g)/\∀c∈cs,vS ns n c.1):=⟨hr1.trans (I5 (by rw[<-hfy];exact hskip)),⟨P1,p1,p2,p3,p4,p5⟩,hr3,hr4,hr5⟩
     by_cases hso:so=-1
     ·have t:(so == -1)=true:=by simpa using hso
      clear hr hr1 p1 p2 p3 p4 p5 hr3 hr4 hr5 kp hyw hyK hwm hfy hskip hso hy hoW hcl2
      go_wp2_with fail
      go_roundg (N-(j+1))
      case measure=>omega
      case rel=>exact ⟨j+1,cs,rest,ahead,taken,kj,ac,cc,rfl,by omega,by omega,rfl,rfl,rfl,rfl,by go_num,HN2.out⟩
     ·have t:(so == -1)=false:=by simpa using hso
      obtain rfl:fy=false:=by rcases hskip with h|h;exact absurd h hso;exact h
      clear hr hr1 p1 p2 p3 p4 p5 hr3 hr4 hr5 kp hyw hyK hwm hfy hskip hso hy hoW
      go_wp2_with (refine hcl2.mono ?_;rintro e w0 ⟨rfl,h00⟩;obtain rfl:=h00.symm;clear hcl2)
      go_roundg (N-(j+1))
      case measure=>omega
      case rel=>exact ⟨j+1,cs,rest,ahead,taken,kj,ac,cc,rfl,by omega,by omega,rfl,rfl,rfl,rfl,by go_num,HN2.out⟩
    ·have t:(so == -1)=false:=by rw[beq_eq_false_iff_ne];exact fun e=>hskip (.inl e)
     obtain rfl:fy=true:=by cases fy;exact absurd (.inr rfl) hskip;rfl
     have HP1:Hid (∀b,P1 b->b<wr.heap.size):=p1.2.2
     have BAD:Hid (∀w2,bH P1 wr w2->bH P w w2):=fun w2 hf=>p4.trans hf fun b hb hq=>(p2 b hq).1.elim id fun h=>absurd h.1 (by omega)
     have a0:Hid (At E ns P1 kb wr kj wr kj):=At.start p1
     have e0:Hid (X=(Em.dS rest ahead >>= fun rest'=>Em.pD (Em.aG d) s y rest' >>= fun ahead'=>chK (s:=s) so taken f y (s.ways.drop (j+1)) cs rest' ahead') kj):=hr1.trans (Eb (by rw[<-hfy];exact hskip))
     have hR1:Ro A P1 wr:=fun b hb=>⟨Nat.lt_of_lt_of_le (HC.out.2.1 b hb).1 p4.size,fun hp=>(p2 b hp).1.elim (HC.out.2.1 b hb).2 fun h=>absurd h.1 (by have:=(HC.out.2.1 b hb).1;omega)⟩
     have hbn:=nQ rest ahead a0.out.1 hE
     have HR:Hid (Ro A P1 wr/\uG A wr (eV A d wr) gS o s gd od/\yX A wr gw oW y/\A gw/\vS ns n y/\(∀x,P1 x->Up P w wr x/\¬((Value.slice ac cs.length cc).ownBlock=some x))/\(∀x,(Value.slice ac cs.length cc).ownBlock=some x->x<wr.heap.size)/\bH P w wr/\k.net.places≤kj.net.places/\pQ A wr (.slice ac cs.length cc) cs/\(∀g,(Value.slice ac cs.length cc).ownBlock=some g->w.heap.size≤g)/\∀c∈cs,vS ns n c.1):=⟨hR1,HC.out.2.2.1.carry kp (eV.carry d kp),by rw[hoW];exact hyw,hAw,hyK,p2,p3,p4,p5,hr3,hr4,hr5⟩
     clear hr hr1 p1 p2 p3 p4 p5 hr3 hr4 hr5 kp hyw hyK hwm hfy hskip hy hoW hR1 hAw hAy
     go_upto_region 8 with (refine hcl2.mono ?_;rintro e w0 ⟨rfl,h00⟩;obtain rfl:=h00.symm;clear hcl2)
     go_upto_region 9 with (go_at_call 232;refine hbn.mono ?_;rintro e w1 (⟨rfl,h0,h1⟩|⟨x1,k1,rfl,h0,h1⟩);(· exact ⟨rfl,.inl ⟨rfl,e0.out.trans (aF h0.out),BAD.out _ (a0.out.2.1.up h1.out)⟩⟩);have a1:Hid (At E ns P1 kb wr kj w1 k1):=a0.out.step HP1.out h1.out;have e1:Hid _:=e0.out.trans (bind_some h0.out);clear h0 h1 hbn)
     have kp:=a1.out.keep HR.out.1
     have hop:=Di (so0:=x1) hE (HR.out.2.1.carry kp (eV.carry d kp)) HC.out.2.2.2 HR.out.2.2.2.1 (yX.carry kp HR.out.2.2.2.1 HR.out.2.2.1) HR.out.2.2.2.2.1 a1.out.1 (a1.out.ro HR.out.1)
     clear kp q1 y0 hix t
     go_upto_region 10 with (go_at_call 257;refine hop.mono ?_;rintro e w2 (⟨rfl,h0,h1⟩|⟨x2,k2,rfl,h0,h1⟩);(· exact ⟨rfl,.inl ⟨rfl,e1.out.trans (aF h0.out),BAD.out _ (a1.out.2.1.up h1.out)⟩⟩);have a2:Hid (At E ns P1 kb wr kj w2 k2):=a1.out.step HP1.out h1.out;have e2:Hid _:=e1.out.trans (bind_some h0.out);clear h0 h1 hop)
     obtain ⟨xs,hown,hrow⟩:=HR.out.2.2.2.2.2.2.2.2.2.1
     have hownW:w2.ownsRow 0 333 2 (.slice ac cs.length cc) cs.length xs:=dK (A:=fun b=>(Value.slice ac cs.length cc).ownBlock=some b) (A':=fun _=>True) hown (fun _ h=>h) fun b hb hl=>⟨trivial,a2.out.2.1.block b hl fun hp=>(HR.out.2.2.2.2.2.1 b hp).2 hb⟩
     have HROW:Hid (Rows (Xu A wr) cs xs):=hrow
     obtain ⟨m,hm⟩:∃m,m=cs.length:=⟨_,rfl⟩
     have HM:Hid (m=cs.length):=hm
     rw[<-hm] at hownW hcl
     have hm6:(m:Int)≤1000000:=by omega
     rw[<-hm]
     clear hown hrow hm a0 a1 e0 e1
     go_upto_region 11 with (at_builtin;refine wpList_append_own_at _ rfl (.tmp 51) (.tmp 55) 304 rfl 0 333 i0 _ 2 16 Tryz.underlying304 hi hz0 hz1 hz2 rfl (by decide) _ _ _ rfl (hownW.alloc _) ⟨w2.heap.size,0,none⟩ 1 1 [.pointer (some ⟨gw,oW,none⟩),.int .i64 x2] rfl rfl (dX _ _ _) (by intro u hu;simp at hu;rcases hu with rfl|rfl<;>rfl) (by unfold maxLen;omega) (by omega) (by simp) ?_;intro v5 w5 hown5 hgrow _ hat;obtain ⟨a5,m5,e5⟩:=aJ hown5;subst e5)
     have hst:=Wk (v:=.slice ac cs.length cc) (ob:=.cells #[.pointer (some ⟨gw,oW,none⟩),.int .i64 x2] 333) HC.out.2.1 HR.out.1 HR.out.2.2.1 HR.out.2.2.2.1 HR.out.2.2.2.2.1 HR.out.2.2.2.2.2.1 HR.out.2.2.2.2.2.2.1 HR.out.2.2.2.2.2.2.2.1 HR.out.2.2.2.2.2.2.2.2.1 HROW.out HR.out.2.2.2.2.2.2.2.2.2.2.1 HR.out.2.2.2.2.2.2.2.2.2.2.2 a2.out rfl (by rw[<-HM.out];exact hown5) (by rw[<-HM.out];exact hgrow) (by rw[<-HM.out];exact hat)
     have HST:Hid _:=hst
     clear hst hown5 hgrow hat hownW HROW
     by_cases hend:x2=x1
     ·have HF:Hid (yH E ns P A n kb w k X (.returned (.tuple #[.slice a5 (m+1) m5,.int .i64 so])) w5):=.inr ⟨cs++[(y,x2)],so,k2,a5,m+1,m5,rfl,e2.out.trans (Wl hend),HST.out.1,HST.out.2.1,HST.out.2.2.1,HST.out.2.2.2,by rw[List.length_append,<-HM.out];show m+1=m+1/\m+1≤1000000;omega⟩
      have t:(x2==x1)=true:=by simpa using hend
      clear hend HST e2 a2 HR BAD HP1
      go_wp2_with fail
      go_ret2
      exact HF.out
     ·have t:(x2==x1)=false:=by simpa using hend
      obtain ⟨⟨P5,p1,p2,p3,p4,p5⟩,g2,g3,g4⟩:=HST.out
      have hor:=oZ taken x2 p1 hE
      have e3:Hid (X=(Em.tN taken x2 >>= fun t=>Em.fY (Em.aG d) s so f (s.ways.drop (j+1)) x1 x2 t (cs++[(y,x2)])) k2):=e2.out.trans (Zz hend)
      have HQ:Hid (eG E ns P5 w5 kb k2/\(∀x,P5 x->Up P w w5 x/\¬((Value.slice a5 (m+1) m5).ownBlock=some x))/\(∀x,(Value.slice a5 (m+1) m5).ownBlock=some x->x<w5.heap.size)/\bH P w w5/\k.net.places≤k2.net.places/\pQ A w5 (.slice a5 (m+1) m5) (cs++[(y,x2)])/\(∀g,(Value.slice a5 (m+1) m5).ownBlock=some g->w.heap.size≤g)/\∀c∈cs++[(y,x2)],vS ns n c.1):=⟨p1,p2,p3,p4,p5,g2,g3,g4⟩
      have BAD5:Hid (∀w6,bH P5 w5 w6->bH P w w6):=fun w2 hf=>p4.trans hf fun b hb hq=>(p2 b hq).1.elim id fun h=>absurd h.1 (by omega)
      clear hend HST e2 a2 HR BAD HP1 p1 p2 p3 p4 p5 g2 g3 g4
      go_wp2_with (go_at_call 239;refine hor.mono ?_;rintro e w6 (⟨rfl,h0,h1⟩|⟨x6,k6,rfl,h0,h1⟩);(· exact ⟨rfl,.inl ⟨rfl,e3.out.trans (aF h0.out),BAD5.out _ h1.out⟩⟩))
      have HN6:Hid (X=Em.fY (Em.aG d) s so f (s.ways.drop (j+1)) x1 x2 x6 (cs++[(y,x2)]) k6/\Xb E ns P (fun b=>(Value.slice a5 (m+1) m5).ownBlock=some b) kb w k w6 k6/\pQ A w6 (.slice a5 (m+1) m5) (cs++[(y,x2)])/\(∀g,(Value.slice a5 (m+1) m5).ownBlock=some g->w.heap.size≤g)/\∀c∈cs++[(y,x2)],vS ns n c.1):=by
       obtain ⟨q1,q2,q3,q4,q5,q6,q7,q8⟩:=HQ.out
       have hR5:Ro A P5 w5:=fun b hb=>⟨Nat.lt_of_lt_of_le (HC.out.2.1 b hb).1 q4.size,fun hp=>(q2 b hp).1.elim (HC.out.2.1 b hb).2 fun h=>absurd h.1 (by have:=(HC.out.2.1 b hb).1;omega)⟩
       exact ⟨e3.out.trans (bind_some h0.out),Xb.next q2 q3 q4 q5 h1.out,q6.keep (hR5.keep h1.out.2.1) (fun g hg=>h1.out.2.1.block g (q3 g hg) fun hp=>(q2 g hp).2 hg),q7,q8⟩
      have hlen:(cs++[(y,x2)]).length=m+1:=by rw[List.length_append,<-HM.out];rfl
      clear h0 h1 hor e3 HQ BAD5
      go_roundg (N-(j+1))
      case measure=>omega
      case rel=>exact ⟨j+1,cs++[(y,x2)],x1,x2,x6,k6,a5,m5,rfl,by omega,by rw[hlen];omega,by rw[hlen],rfl,rfl,rfl,by go_num,by rw[hlen];exact HN6.out⟩
   ·obtain rfl:j=N:=by omega
    have HF:Hid (yH E ns P A n kb w k X (.returned (.tuple #[.slice ac cs.length cc,.int .i64 taken])) wr):=.inr ⟨cs,taken,kj,ac,cs.length,cc,rfl,by rw[Hid,hr1,HW.out.2.2.1,List.drop_length];rfl,⟨P1,p1,p2,p3,p4,p5⟩,hr3,hr4,hr5,rfl,by omega⟩
    clear hr hr1 p1 p2 p3 p4 p5 hr3 hr4 hr5
    go_wp2_with fail
    go_ret2
    exact HF.out
theorem Ry (hE:E<1000000) {gS o gd od n:Nat}{s:eM (St d) (Rg d)}{so:Int}(hs:uG A w (eV A d w) gS o s gd od) (hK:zA ns n (eN ns d) s) (h:eG E ns P w kb k) (hR:Ro A P w) :
    Calls Tryz.prog 230 #[.pointer (some ⟨kb,0,none⟩),.pointer (some ⟨gS,o,none⟩),.int .i64 so,.func (.func 231) #[] #[]] w (yH E ns P A n kb w k (Em.choose (Em.aG d) s so (fun y=>decide (y.kind=1)) k)):=nO (.inl rfl) aG8 hE hs hK h hR
theorem Rx (hE:E<1000000) {gS o gd od n:Nat}{s:eM (St d) (Rg d)}{so:Int}(hs:uG A w (eV A d w) gS o s gd od) (hK:zA ns n (eN ns d) s) (h:eG E ns P w kb k) (hR:Ro A P w) :
    Calls Tryz.prog 230 #[.pointer (some ⟨kb,0,none⟩),.pointer (some ⟨gS,o,none⟩),.int .i64 so,.func (.func 238) #[] #[]] w (yH E ns P A n kb w k (Em.choose (Em.aG d) s so (fun y=>!decide (y.kind=1)) k)):=nO (.inr (.inl rfl)) aG7 hE hs hK h hR
theorem Rv (hE:E<1000000) {gS o gd od n:Nat}{s:eM (St d) (Rg d)}{so:Int}(hs:uG A w (eV A d w) gS o s gd od) (hK:zA ns n (eN ns d) s) (h:eG E ns P w kb k) (hR:Ro A P w) :
    Calls Tryz.prog 230 #[.pointer (some ⟨kb,0,none⟩),.pointer (some ⟨gS,o,none⟩),.int .i64 so,.func (.func 259) #[] #[]] w (yH E ns P A n kb w k (Em.choose (Em.aG d) s so (fun y=>y.now&&decide (y.kind=1)) k)):=nO (.inr (.inr (.inl rfl))) aG6 hE hs hK h hR
theorem Ru (hE:E<1000000) {gS o gd od n:Nat}{s:eM (St d) (Rg d)}{so:Int}(hs:uG A w (eV A d w) gS o s gd od) (hK:zA ns n (eN ns d) s) (h:eG E ns P w kb k) (hR:Ro A P w) :
    Calls Tryz.prog 230 #[.pointer (some ⟨kb,0,none⟩),.pointer (some ⟨gS,o,none⟩),.int .i64 so,.func (.func 262) #[] #[]] w (yH E ns P A n kb w k (Em.choose (Em.aG d) s so (fun y=>y.now && !decide (y.kind=1)) k)):=nO (.inr (.inr (.inr rfl))) aG5 hE hs hK h hR
end
end Ew
end
section
open Go.RowKit Px
namespace Ew
open Px.Em (Kd Vr eL eM jG Rg cR)
open Nx (Nt Sp)
def Se (a:Int×Bool):List Value:=[.int .i64 a.1,.bool a.2]
structure IM (T:Nat->Prop) (w:World) (b:Nat) (t:cR) (c:Nat) (vs:List Value) (role:Nat->Nat):Prop where
 hb:w.heap[b]?=some (.cells vs.toArray 271 (0,0))
 len:vs.length=t.length
 row:∀(i:Nat) (v:Value) (l:List (Int×Bool)),vs[i]?=some v->t[i]?=some l->w.ownsRow 0 273 2 v l.length (l.flatMap Se)
 pb:T b/\role b=0
 pr:∀(i:Nat) (v:Value) (g:Nat),vs[i]?=some v->v.ownBlock=some g->T g/\role g=i+1
 many:∀(i:Nat) (l:List (Int×Bool)),t[i]?=some l->l.length≤c
def vJ (T:Nat->Prop) (w:World) (b:Nat) (t:cR) (c:Nat):Prop:=(∃vs role,IM T w b t c vs role)/\∀x,T x->x<w.heap.size
section
variable {T T':Nat->Prop}{w w':World}{b c:Nat}{t:cR}
theorem IM.carry {vs:List Value}{role:Nat->Nat}(h:IM T w b t c vs role) (k:aX T T' w w'):IM T' w' b t c vs role:=by
 have kb:=k b h.pb.1 (aB h.hb)
 refine ⟨by rw[kb.2];exact h.hb,h.len,fun i v l hv hl=>dK (h.row i v l hv hl) (fun g hg=>(h.pr i v g hv hg).1) k,⟨kb.1,h.pb.2⟩,fun i v g hv hg=>?_,h.many⟩
 have hi:i<t.length:=by rw[<-h.len];exact (List.getElem?_eq_some_iff.1 hv).1
 exact ⟨(k g (h.pr i v g hv hg).1 ((h.row i v _ hv (List.getElem?_eq_getElem hi)).lt g hg).2).1,(h.pr i v g hv hg).2⟩
theorem vJ.carry (h:vJ T w b t c) (k:aX T T w w') (hs:w.heap.size≤w'.heap.size):vJ T w' b t c:=
 ⟨by obtain ⟨⟨vs,role,h1⟩,_⟩:=h;exact ⟨vs,role,h1.carry k⟩,fun x hx=>Nat.lt_of_lt_of_le (h.2 x hx) hs⟩
theorem vJ.more {c':Nat}(h:vJ T w b t c) (hc:c≤c'):vJ T w b t c':=by
 obtain ⟨⟨vs,role,h1⟩,h2⟩:=h
 exact ⟨⟨vs,role,⟨h1.hb,h1.len,h1.row,h1.pb,h1.pr,fun i l hl=>Nat.le_trans (h1.many i l hl) hc⟩⟩,h2⟩
theorem mT (i so:Int) (back:Bool):(Em.dZ t i so back).length=t.length:=by unfold Em.dZ;rw[List.length_set]
theorem Vp:(Tryz.prog.info? 273).map (fun i=>(i.zero,i.size,i.bytes))=some (some (.agg #[.int .i64 0,.bool false]),2,16):=by kernel_rfl
theorem ixA (g n cap j:Nat) (hk:j<n) (w:World):(Instr.indexAt 225 (.slice (some ⟨g,0,none⟩) n cap) (.int .i64 (j:Int))).run Tryz.prog w=.ok (.pointer (some ⟨g,j,none⟩)) w:=by
 rw[run_indexAt_slice _ _ _ _ _ _ _ (by kernel_rfl),if_pos ⟨by omega,by omega⟩]
 have e:(sizeOf (Tryz.prog.elem 225)).run Tryz.prog w=.ok 1 w:=by kernel_rfl
 rw[e]
 simp[Result.andThen,Addr.add]
 try (intro h;exact h.symm)
theorem aE8 (ad:Option Addr) (g n cap j:Nat) (hk:j<n) (ha:0<n->ad=some ⟨g,0,none⟩) (w:World):(Instr.indexAt 271 (.slice ad n cap) (.int .i64 (j:Int))).run Tryz.prog w=.ok (.pointer (some ⟨g,j*2,none⟩)) w:=by
 obtain rfl:=ha (by omega)
 rw[run_indexAt_slice _ _ _ _ _ _ _ (by kernel_rfl),if_pos ⟨by omega,by omega⟩]
 have e:(sizeOf (Tryz.prog.elem 271)).run Tryz.prog w=.ok 2 w:=by kernel_rfl
 rw[e]
 simp[Result.andThen,Addr.add]
 try (intro h;exact h.symm)
theorem IM.grow {vs:List Value}{role:Nat->Nat}(h:IM T w b t c vs role) (hlt:∀x,T x->x<w.heap.size) {i:Nat}{v v5:Value}{l:List (Int×Bool)}{so:Int}{back:Bool}{ob:Obj}{w5:World}(hv:vs[i]?=some v) (hl:t[i]?=some l)
    (hown:w5.ownsRow 0 273 2 v5 (l.length+1) (l.flatMap Se++Se (so,back))) (hg:(w.alloc ob).grownBy w5 v.ownBlock) (hat:v5.ownBlock=v.ownBlock\/v5.ownBlock=some (w.alloc ob).heap.size) :
    vJ (Up T w (w5.setCell ⟨b,i,none⟩ v5)) (w5.setCell ⟨b,i,none⟩ v5) b (t.set i (l++[(so,back)])) (c+1)/\bH T w (w5.setCell ⟨b,i,none⟩ v5):=by
 have s3:(w.alloc ob).heap.size=w.heap.size+1:=by simp
 have s4:=hg.size
 have lb:=aB h.hb
 have hiv:i<vs.length:=(List.getElem?_eq_some_iff.1 hv).1
 have ne:∀x,x<w.heap.size->role x≠i+1->v5.ownBlock≠some x:=fun x hx hr e=>by
  rcases hat with h'|h'
  ·exact hr (h.pr i v x hv (h'.symm.trans e)).2
  ·rw[e] at h';injection h' with h';omega
 have no:∀x,role x≠i+1->v.ownBlock≠some x:=fun x hr e=>hr (h.pr i v x hv e).2
 have kp:∀x,x<w.heap.size->x≠b->role x≠i+1->(w5.setCell ⟨b,i,none⟩ v5).heap[x]?=w.heap[x]?:=fun x hx hb hr=>by
  rw[Below.heap_setCell _ _ _ _ hb,hg.block x (by omega) (fun e=>no x hr e.symm),Below.heap_alloc _ _ _ hx]
 have k5:w5.heap[b]?=w.heap[b]?:=by rw[hg.block b (by omega) (fun e=>no b (by rw[h.pb.2];omega) e.symm),Below.heap_alloc _ _ _ lb]
 have hfr:bH T w (w5.setCell ⟨b,i,none⟩ v5):=(((bH.refl _ _).alloc ob).grown hg fun x hx=>.inl (h.pr i v x hv hx).1).setCell (.inl h.pb.1) _
 refine ⟨⟨⟨vs.set i v5,fun x=>if v5.ownBlock=some x then i+1 else role x,⟨bQ (by rw[k5];exact h.hb) i v5,by rw[List.length_set,List.length_set];exact h.len,fun j u m hu hm=>?_,⟨.inl h.pb.1,?_⟩,fun j u g hu hgu=>?_,fun j m hm=>?_⟩⟩,fL hlt hfr.size⟩,hfr⟩
 ·by_cases hj:i=j
  ·subst hj
   rw[List.getElem?_set_self (by omega)] at hu
   rw[List.getElem?_set_self (by rw[<-h.len];exact hiv)] at hm
   injection hu with hu
   injection hm with hm
   subst hu hm
   have e2:(l++[(so,back)]).flatMap Se=l.flatMap Se++Se (so,back):=by simp
   rw[List.length_append,e2]
   refine dK (A:=fun x=>v5.ownBlock=some x) (A':=fun _=>True) hown (fun _ h=>h) fun x hx _=>⟨trivial,Below.heap_setCell _ _ _ _ fun e=>?_⟩
   have e:=e
   subst e
   exact ne x lb (by rw[h.pb.2];omega) hx
  ·rw[List.getElem?_set_ne hj] at hu hm
   refine dK (A:=fun x=>u.ownBlock=some x) (A':=fun _=>True) (h.row j u m hu hm) (fun _ h=>h) fun x hx hl=>⟨trivial,kp x hl (fun e=>?_) ?_⟩
   ·have:=(h.pr j u x hu hx).2;rw[e,h.pb.2] at this;omega
   ·rw[(h.pr j u x hu hx).2];omega
 ·rw[if_neg (ne b lb (by rw[h.pb.2];omega))];exact h.pb.2
 ·by_cases hj:i=j
  ·subst hj
   rw[List.getElem?_set_self (by omega)] at hu
   injection hu with hu
   subst hu
   refine ⟨?_,if_pos hgu⟩
   rcases hat with h'|h'
   ·exact .inl (h.pr i v g hv (h'.symm.trans hgu)).1
   ·rw[hgu] at h';injection h' with h'
    exact .inr ⟨by omega,by simp[World.setCell];exact (hown.lt g hgu).2⟩
  ·rw[List.getElem?_set_ne hj] at hu
   have hq:=h.pr j u g hu hgu
   have hi:j<t.length:=by rw[<-h.len];exact (List.getElem?_eq_some_iff.1 hu).1
   refine ⟨.inl hq.1,?_⟩
   rw[if_neg (ne g ((h.row j u _ hu (List.getElem?_eq_getElem hi)).lt g hgu).2 (by rw[hq.2];omega))];exact hq.2
 ·by_cases hj:i=j
  ·subst hj
   rw[List.getElem?_set_self (by rw[<-h.len];exact hiv)] at hm
   injection hm with hm
   subst hm
   have:=h.many i l hl
   rw[List.length_append];show _+1≤_;omega
  ·rw[List.getElem?_set_ne hj] at hm
   have:=h.many j m hm;omega
theorem sF {i:Nat}(so:Int) (back:Bool) (h:vJ T w b t c) (hi:i<t.length) (hc:c≤8000000000000) :
    Calls Tryz.prog 148 #[.slice (some ⟨b,0,none⟩) t.length t.length,.int .i64 (i:Int),.int .i64 so,.bool back] w fun e w'=>e=.returned (.tuple #[])/\Hid (vJ (Up T w w') w' b (Em.dZ t i so back) (c+1)/\bH T w w'):=by
 obtain ⟨⟨vs,role,hI⟩,hlt⟩:=h
 obtain ⟨i0,hi0,hz0,hz1,hz2⟩:=info_parts Vp
 obtain ⟨l,hl⟩:∃l,t[i]?=some l:=⟨_,List.getElem?_eq_getElem hi⟩
 obtain ⟨v,hv⟩:∃v,vs[i]?=some v:=⟨_,List.getElem?_eq_getElem (by rw[hI.len];exact hi)⟩
 have hr:=hI.row i v l hv hl
 obtain ⟨ao,cap,rfl⟩:=aJ hr
 have c0:w.cell? ⟨b,i,none⟩=some (.slice ao l.length cap):=aA hI.hb i (by simpa using hv)
 have hm:=hI.many i l hl
 obtain ⟨m,hmm⟩:∃m,m=l.length:=⟨_,rfl⟩
 have HM:Hid _:=hmm
 rw[<-hmm] at c0 hr hm
 obtain ⟨n,hnn⟩:∃n,n=t.length:=⟨_,rfl⟩
 rw[<-hnn] at hi ⊢
 have hix:=ixA b n n i hi
 have lb:=aB hI.hb
 have HI:Hid (IM T w b t c vs role/\(∀x,T x->x<w.heap.size)/\t[i]?=some l/\vs[i]?=some (.slice ao l.length cap)/\w.heap[b]?=some (.cells vs.toArray 271 (0,0))/\∀g,(Value.slice ao m cap).ownBlock=some g->g≠b):=⟨hI,hlt,hl,hv,hI.hb,fun g hg e=>by
  have h1:=hI.pr i _ g hv (by rw[<-hmm];exact hg)
  rw[e,hI.pb.2] at h1;omega⟩
 have HE:Hid (Em.dZ t i so back=t.set i (l++[(so,back)])):=by
  unfold Em.dZ Hid
  rw[List.getD_eq_getElem?_getD,show ((i:Int)).toNat=i by omega,hl]
  rfl
 clear hI hlt hl hv hmm hnn
 go_enter Tryz.func148,Tryz.ntmps148
 go_wp2_with (at_builtin;refine wpList_append_own_at _ rfl (.tmp 13) (.tmp 17) 271 rfl 0 273 i0 _ 2 16 Tryz.underlying271 hi0 hz0 hz1 hz2 rfl (by decide) _ _ _ rfl (hr.alloc _) ⟨w.heap.size,0,none⟩ 1 1 [.int .i64 so,.bool back] rfl rfl (dX _ _ _) (by intro u hu;simp at hu;rcases hu with rfl|rfl<;>rfl) (by unfold maxLen;omega) (by omega) (by simp) ?_;intro v5 w5 hown5 hgrow _ hat;obtain ⟨a5,m5,e5⟩:=aJ hown5;subst e5;have hk5:w5.heap[b]?=some (.cells vs.toArray 271 (0,0)):=by { rw[hgrow.block b (by simp;omega) (fun e=>(HI.out.2.2.2.2.2 b e.symm) rfl),dW HI.out.2.2.2.2.1] };have d1:w5.cell? ⟨b,i,none⟩=some (.slice ao m cap):=by { rw[HM.out];exact aA hk5 i (by simpa using HI.out.2.2.2.1) };have f1:=aE hk5 i)
 go_end0
 obtain ⟨h1,h2,h3,h4,_⟩:=HI.out
 have hg:=h1.grow h2 (so:=so) (back:=back) (ob:=.cells #[.int .i64 so,.bool back] 273) (v5:=.slice a5 (m+1) m5) h4 h3 (by rw[<-HM.out];exact hown5) (by rw[<-HM.out];exact hgrow) (by rw[<-HM.out];exact hat)
 rw[HE.out]
 exact ⟨rfl,hg.1,hg.2⟩
end
structure Two (E:Nat) (ns:List bB) (P T X:Nat->Prop) (kb b:Nat) (w:World) (k:Kd) (P1 T1:Nat->Prop) (wr:World) (kj:Kd) (t:cR) (c:Nat):Prop where
 cm:eG E ns P1 wr kb kj
 im:vJ T1 wr b t c
 dis:∀x,P1 x->¬T1 x
 up:∀x,P1 x->Up P w wr x/\¬X x
 ut:∀x,T1 x->Up T w wr x/\¬X x
 xl:∀x,X x->x<wr.heap.size
 fr:bH (fun x=>P x\/T x) w wr
 pl:k.net.places≤kj.net.places
def AtI (E:Nat) (ns:List bB) (P T X:Nat->Prop) (kb b:Nat) (w:World) (k:Kd) (wr:World) (kj:Kd) (t:cR) (c:Nat):Prop:=∃P1 T1,Two E ns P T X kb b w k P1 T1 wr kj t c
def dC (E:Nat) (ns:List bB) (P T:Nat->Prop) (kb b:Nat) (w:World) (k:Kd) (c:Nat) (o:Option (cR×Kd)) (e:Ending) (w':World):Prop:=
 (e=Sv/\Hid (o=none)/\Hid (bH (fun x=>P x\/T x) w w'))\/∃t k',e=.returned (.tuple #[])/\Hid (o=some (t,k'))/\Hid (AtI E ns P T (fun _=>False) kb b w k w' k' t c)
section
variable {P T X P1 T1 A:Nat->Prop}{w wr w2:World}{kb b E c:Nat}{ns:List bB}{k kj k2:Kd}{t:cR}
theorem Two.start (h:eG E ns P w kb k) (hI:vJ T w b t c) (hd:∀x,P x->¬T x):Two E ns P T (fun _=>False) kb b w k P T w k t c:=
 ⟨h,hI,hd,fun _ h=>⟨.inl h,id⟩,fun _ h=>⟨.inl h,id⟩,fun _ h=>h.elim,bH.refl _ _,Int.le_refl _⟩
theorem Two.bad (h:Two E ns P T X kb b w k P1 T1 wr kj t c) (hf:bH P1 wr w2):bH (fun x=>P x\/T x) w w2:=h.fr.trans hf fun b hb hq=>(h.up b hq).1.elim .inl fun h=>absurd h.1 (by omega)
theorem Two.coder (h:Two E ns P T X kb b w k P1 T1 wr kj t c) (h2:At E ns P1 kb wr kj w2 k2):Two E ns P T X kb b w k (Up P1 wr w2) T1 w2 k2 t c:=by
 have s1:=h2.2.1.size
 have s0:=h.fr.size
 refine ⟨h2.1,h.im.carry (h2.2.1.keep fun x hx hp=>h.dis x hp hx) s1,fun x hx ht=>?_,fun x hx=>?_,fun x hx=>⟨Up.size s1 x (h.ut x hx).1,(h.ut x hx).2⟩,fun x hx=>Nat.lt_of_lt_of_le (h.xl x hx) s1,h.bad h2.2.1,Int.le_trans h.pl h2.2.2⟩
 ·rcases hx with hx|hx
  ·exact h.dis x hx ht
  ·have:=h.im.2 x ht;omega
 ·rcases hx with hx|hx
  ·exact ⟨Up.size s1 x (h.up x hx).1,(h.up x hx).2⟩
  ·exact ⟨.inr ⟨by omega,hx.2⟩,fun h'=>absurd (h.xl x h') (by omega)⟩
theorem Two.into {t':cR}{c':Nat}(h:Two E ns P T X kb b w k P1 T1 wr kj t c) (h2:vJ (Up T1 wr w2) w2 b t' c') (hf:bH T1 wr w2):Two E ns P T X kb b w k P1 (Up T1 wr w2) w2 kj t' c':=by
 have s1:=hf.size
 have s0:=h.fr.size
 have kp:aX P1 P1 wr w2:=hf.keep fun x hx=>h.dis x hx
 refine ⟨⟨h.cm.1.imp fun _ h=>h.carry kp,h.cm.2.1,fun x hx=>Nat.lt_of_lt_of_le (h.cm.2.2 x hx) s1⟩,h2,fun x hx ht=>?_,fun x hx=>⟨Up.size s1 x (h.up x hx).1,(h.up x hx).2⟩,fun x hx=>?_,fun x hx=>Nat.lt_of_lt_of_le (h.xl x hx) s1,h.fr.trans hf fun b hb hq=>(h.ut b hq).1.elim .inr fun h=>absurd h.1 (by omega),h.pl⟩
 ·rcases ht with ht|ht
  ·exact h.dis x hx ht
  ·have:=h.cm.2.2 x hx;omega
 ·rcases hx with hx|hx
  ·exact ⟨Up.size s1 x (h.ut x hx).1,(h.ut x hx).2⟩
  ·exact ⟨.inr ⟨by omega,hx.2⟩,fun h'=>absurd (h.xl x h') (by omega)⟩
theorem Two.below (h:Two E ns P T X kb b w k P1 T1 wr kj t c) (hb:Below wr.heap.size wr w2):Two E ns P T X kb b w k P1 T1 w2 kj t c:=
 ⟨h.cm.below hb,h.im.carry (fun x hx hl=>⟨hx,hb.block x hl⟩) hb.size,h.dis,fun x hx=>⟨Up.size hb.size x (h.up x hx).1,(h.up x hx).2⟩,fun x hx=>⟨Up.size hb.size x (h.ut x hx).1,(h.ut x hx).2⟩,fun x hx=>Nat.lt_of_lt_of_le (h.xl x hx) hb.size,h.fr.trans (bH.of_below (P:=fun _=>False) hb) fun _ _ h=>h.elim,h.pl⟩
theorem Two.more {c':Nat}(h:Two E ns P T X kb b w k P1 T1 wr kj t c) (hc:c≤c'):Two E ns P T X kb b w k P1 T1 wr kj t c':=⟨h.cm,h.im.more hc,h.dis,h.up,h.ut,h.xl,h.fr,h.pl⟩
theorem Two.ro (h:Two E ns P T X kb b w k P1 T1 wr kj t c) (hR:Ro A (fun x=>P x\/T x) w):Ro A P1 wr:=fun x hx=>⟨Nat.lt_of_lt_of_le (hR x hx).1 h.fr.size,fun hp=>(h.up x hp).1.elim (fun h=>(hR x hx).2 (.inl h)) fun h=>absurd h.1 (by have:=(hR x hx).1;omega)⟩
theorem Two.roT (h:Two E ns P T X kb b w k P1 T1 wr kj t c) (hR:Ro A (fun x=>P x\/T x) w):Ro A T1 wr:=fun x hx=>⟨Nat.lt_of_lt_of_le (hR x hx).1 h.fr.size,fun hp=>(h.ut x hp).1.elim (fun h=>(hR x hx).2 (.inr h)) fun h=>absurd h.1 (by have:=(hR x hx).1;omega)⟩
theorem Two.keep (h:Two E ns P T X kb b w k P1 T1 wr kj t c) (hR:Ro A (fun x=>P x\/T x) w):aX A A w wr:=hR.keep h.fr
end
end Ew
end
section
open Go.RowKit Px
namespace Ew
open Px.Em (Kd Vr eL eM jG Rg cR)
open Nx (Nt Sp)
section
variable {P T X P1 T1 A:Nat->Prop}{w wr w2:World}{kb b E c:Nat}{ns:List bB}{k kj k2:Kd}{t:cR}
theorem Hm {y:eL×Int}{r:List (eL×Int)}:Em.take (y::r) t k=(Em.uA y.2 y.1.drawn.sets >>= fun _=>Em.take r (Em.dZ t y.1.to y.2 y.1.drawn.back)) k:=rfl
theorem aL1 (ad:Option Addr) (g n cap j:Nat) (hk:j<n) (ha:0<n->ad=some ⟨g,0,none⟩) (w:World):(Instr.indexAt 304 (.slice ad n cap) (.int .i64 (j:Int))).run Tryz.prog w=.ok (.pointer (some ⟨g,j*2,none⟩)) w:=by
 obtain rfl:=ha (by omega)
 rw[run_indexAt_slice _ _ _ _ _ _ _ (by kernel_rfl),if_pos ⟨by omega,by omega⟩]
 have e:(sizeOf (Tryz.prog.elem 304)).run Tryz.prog w=.ok 2 w:=by kernel_rfl
 rw[e]
 simp[Result.andThen,Addr.add]
 try (intro h;exact h.symm)
theorem pQ.open {v:Value}{cs:List (eL×Int)}(h:pQ A w v cs):∃ad g cap,v=.slice ad cs.length cap/\(0<cs.length->ad=some ⟨g,0,none⟩/\v.ownBlock=some g)/\∀(i:Nat) (a:eL×Int),cs[i]?=some a->∃gW oW,w.cell? ⟨g,i*2,none⟩=some (.pointer (some ⟨gW,oW,none⟩))/\w.cell? ⟨g,i*2+1,none⟩=some (.int .i64 a.2)/\A gW/\yX A w gW oW a.1:=by
 obtain ⟨xs,hr,hs⟩:=h
 obtain ⟨ad,g,cap,h1,h2,h3,h4⟩:=uX.open (A:=fun x=>v.ownBlock=some x) (k:=2) (fun a c ⟨_,_,hc,_⟩=>by rw[hc];rfl) ⟨hr,fun _ h=>h⟩ hs
 refine ⟨ad,g,cap,h1,fun hp=>⟨(h3 hp).1,(h3 hp).2.1⟩,fun i a hi=>?_⟩
 obtain ⟨c,⟨gW,oW,rfl,q1,q2⟩,hx⟩:=h4 i a hi
 exact ⟨gW,oW,hx 0 _ rfl,hx 1 _ rfl,q1,q2⟩
theorem dQ (hE:E<1000000) {n:Nat}{v:Value}{cs:List (eL×Int)}(hv:pQ A w v cs) (hvo:∀g,v.ownBlock=some g->¬(P g\/T g)) (hcs:∀y∈cs,vS ns n y.1) (hn:t.length=n) (hcl:cs.length≤1000000) (h:eG E ns P w kb k) (hI:vJ T w b t c) (hd:∀x,P x->¬T x) (hR:Ro A (fun x=>P x\/T x) w) (hc:c≤7000000000000) :
    Calls Tryz.prog 241 #[.pointer (some ⟨kb,0,none⟩),v,.slice (some ⟨b,0,none⟩) n n] w (dC E ns P T kb b w k (c+1000000) (Em.take cs t k)):=by
 obtain ⟨Z,hZ⟩:∃Z,Z=Em.take cs t k:=⟨_,rfl⟩
 have HZ:Hid (Z=Em.take cs t k):=hZ
 rw[<-hZ]
 obtain ⟨ad,g,cap,rfl,hg,hat⟩:=hv.open
 obtain ⟨N,hN⟩:∃N,N=cs.length:=⟨_,rfl⟩
 rw[<-hN] at hg hcl hvo ⊢
 have HV:Hid ((0<N->ad=some ⟨g,0,none⟩/\¬(P g\/T g))/\(∀(i:Nat) (a:eL×Int),cs[i]?=some a->∃gW oW,w.cell? ⟨g,i*2,none⟩=some (.pointer (some ⟨gW,oW,none⟩))/\w.cell? ⟨g,i*2+1,none⟩=some (.int .i64 a.2)/\A gW/\yX A w gW oW a.1)/\N=cs.length/\∀y∈cs,vS ns n y.1):=⟨fun hp=>⟨(hg hp).1,hvo g (hg hp).2⟩,hat,hN,hcs⟩
 have HC:Hid (eG E ns P w kb k/\vJ T w b t c/\(∀x,P x->¬T x)/\Ro A (fun x=>P x\/T x) w/\t.length=n):=⟨h,hI,hd,hR,hn⟩
 have hN6:(N:Int)≤1000000:=by omega
 clear h hI hd hR hn hg hat hvo hcs hZ hN
 go_enter Tryz.func241,Tryz.ntmps241
 go_wp2_with fail
 go_loopg [10] N (fun f i wr=>∃(j:Nat) (kj:Kd) (tj:cR),f=N-j/\j≤N/\i=.int .i64 (j:Int)/\Hid (Z=Em.take (cs.drop j) tj kj/\tj.length=n/\AtI E ns P T (fun _=>False) kb b w k wr kj tj (c+j)))
 case atStart=>exact ⟨0,k,t,by omega,by omega,rfl,HZ.out,HC.out.2.2.2.2,P,T,Two.start HC.out.1 HC.out.2.1 HC.out.2.2.1⟩
 case round=>
  obtain ⟨j,kj,tj,rfl,hj,rfl,hr⟩:=hrel
  obtain ⟨hr1,hr2,P1,T1,hT⟩:=hr.out
  by_cases hlt:j<N
  ·obtain ⟨y,hy⟩:∃y:eL×Int,cs[j]?=some y:=⟨cs[j]'(by rw[<-HV.out.2.2.1];exact hlt),List.getElem?_eq_getElem _⟩
   obtain ⟨gW,oW,c0,c1,hAW,hyw⟩:=HV.out.2.1 j y hy
   have hgv:=HV.out.1 (by omega)
   have kp:=hT.keep HC.out.2.2.2.1
   have c0:=hT.fr.cell c0 hgv.2
   have c1:=hT.fr.cell c1 hgv.2
   have hix:=aL1 ad g N cap j hlt (fun _=>hgv.1)
   have hyK:=HV.out.2.2.2 y (List.mem_of_getElem? hy)
   obtain ⟨X,hX⟩:∃X,X=wr.alloc (.cells #[.pointer (some ⟨gW,oW,none⟩),.int .i64 y.2] 333):=⟨_,rfl⟩
   obtain ⟨q,hq⟩:∃q,q=wr.heap.size:=⟨_,rfl⟩
   have hbX:Below wr.heap.size wr X:=by rw[hX];exact aC _ _
   have hkX:X.heap[q]?=some (.cells #[.pointer (some ⟨gW,oW,none⟩),.int .i64 y.2] 333 (0,0)):=by rw[hX,hq];exact bE wr _
   have hTX:=hT.below hbX.drew
   have kpX:aX A A w X.drew:=hTX.keep HC.out.2.2.2.1
   obtain ⟨gy,oy,pc,qs,y0,hAy,hwm⟩:=hyw.d
   have y0:X.drew.cell? ⟨gW,oW,none⟩=_:=cF kpX hAW y0
   have m4:X.drew.cell? ⟨gy,oy+4,none⟩=_:=cF kpX hAy hwm.2.2.2.2.1
   have hvl:=hwm.2.2.2.2.2.2.2.2.carry kpX
   have a0:Hid (At E ns P1 kb X.drew kj X.drew kj):=At.start hTX.cm
   have hdo:=tZ (so:=y.2) hyK.s hvl a0.out.1 (a0.out.ro (hTX.ro HC.out.2.2.2.1)) hE
   obtain ⟨va,vn,vc,rfl⟩:=hvl.sl'
   have HP1:Hid (∀x,P1 x->x<X.drew.heap.size):=hTX.cm.2.2
   have BAD:Hid (∀w2,bH P1 X.drew w2->bH (fun x=>P x\/T x) w w2):=fun _ hf=>hTX.bad hf
   have e0:Hid (Z=(Em.uA y.2 y.1.drawn.sets >>= fun _=>Em.take (cs.drop (j+1)) (Em.dZ tj y.1.to y.2 y.1.drawn.back)) kj):=by rw[Hid,hr1,dR hy];exact Hm
   have HX:Hid (Two E ns P T (fun _=>False) kb b w k P1 T1 X.drew kj tj (c+j)/\X.drew.heap[q]?=some (.cells #[.pointer (some ⟨gW,oW,none⟩),.int .i64 y.2] 333 (0,0))/\(¬P1 q/\¬T1 q)/\tj.length=n/\yX A w gW oW y.1/\A gW/\iV A w gy oy y.1.drawn pc (.slice va vn vc)/\A gy/\vS ns n y.1/\w.cell? ⟨gW,oW,none⟩=some (.pointer (some ⟨gy,oy,none⟩))):=⟨hTX,hkX,⟨fun h=>by have:=hT.cm.2.2 q h;omega,fun h=>by have:=hT.im.2 q h;omega⟩,hr2,hyw,hAW,hwm,hAy,hyK,by assumption⟩
   have x0:X.cell? ⟨q,0,none⟩=some (.pointer (some ⟨gW,oW,none⟩)):=aA hkX 0 rfl
   have x1:X.cell? ⟨q,1,none⟩=some (.int .i64 y.2):=aA hkX 1 rfl
   have y0':X.cell? ⟨gW,oW,none⟩=some (.pointer (some ⟨gy,oy,none⟩)):=y0
   have m4':X.cell? ⟨gy,oy+4,none⟩=some (.slice va vn vc):=m4
   obtain ⟨sy,hsy⟩:∃sy,sy=y.2:=⟨_,rfl⟩
   have HSY:Hid (sy=y.2):=hsy
   rw[<-hsy] at x1 hX c1 hdo e0 HX
   clear hr hr1 hr2 hT kp hyK hbX hkX hTX kpX y0 m4 hvl hyw hwm hAW hAy hgv hy hsy
   go_upto_region 3 with fail
   rw[<-hX,<-hq]
   clear hX hq hix c0 c1
   go_region_law (go_simp;go_at_call 236;refine hdo.mono ?_;rintro e w1 (⟨rfl,h0,h1⟩|⟨_,k1,rfl,h0,h1⟩);(· exact ⟨rfl,.inl ⟨rfl,e0.out.trans (aF h0.out),BAD.out _ (a0.out.2.1.up h1.out)⟩⟩);have a1:Hid (At E ns P1 kb X.drew kj w1 k1):=a0.out.step HP1.out h1.out;have e1:Hid _:=e0.out.trans (bind_some h0.out);clear h0 h1 hdo)
   all_goals
    have hw1:=HX.out.1.coder a1.out
    have hk1:=a1.out.2.1.heap HX.out.2.1 HX.out.2.2.1.1
    have hdr:Below w1.heap.size w1 w1.drew:=⟨rfl,rfl,rfl,Nat.le_refl _,fun _ _=>rfl⟩
    have hwd:=hw1.below hdr
    have kp:=hw1.keep HC.out.2.2.2.1
    have z0:=cF kp HX.out.2.2.2.2.2.1 HX.out.2.2.2.2.2.2.2.2.2
    have z1:=cF kp HX.out.2.2.2.2.2.1 HX.out.2.2.2.2.1.t
    have z6:=cF kp HX.out.2.2.2.2.2.2.2.1 HX.out.2.2.2.2.2.2.1.2.2.2.2.2.2.1
    have u0:=aA hk1 0 (u:=.pointer (some ⟨gW,oW,none⟩)) rfl
    have u1:=aA hk1 1 (u:=.int .i64 sy) rfl
    obtain ⟨i0,hi0⟩:∃i0:Nat,y.1.to=(i0:Int):=⟨y.1.to.toNat,by have:=HX.out.2.2.2.2.2.2.2.2.1.t.1;omega⟩
    rw[hi0] at z1
    obtain ⟨bk,hbk⟩:∃bk,bk=y.1.drawn.back:=⟨_,rfl⟩
    rw[<-hbk] at z6
    have hadd:=sF (i:=i0) sy bk hwd.im (by rw[HX.out.2.2.2.1];have:=HX.out.2.2.2.2.2.2.2.2.1.t.2;omega) (by omega)
    rw[HX.out.2.2.2.1] at hadd
    have e2:Hid (Z=Em.take (cs.drop (j+1)) (Em.dZ tj i0 sy bk) k1):=by rw[hi0,<-hbk] at e1;exact e1
    have HW:Hid (Two E ns P T (fun _=>False) kb b w k (Up P1 X.drew w1) T1 w1.drew k1 tj (c+j)/\w1.heap[q]?=some (.cells #[.pointer (some ⟨gW,oW,none⟩),.int .i64 sy] 333 (0,0))/\w1.cell? ⟨gW,oW,none⟩=some (.pointer (some ⟨gy,oy,none⟩))/\w1.cell? ⟨gW,oW+1,none⟩=some (.int .i64 (i0:Int))/\w1.cell? ⟨gy,oy+6,none⟩=some (.bool bk)/\(¬T1 gW/\¬T1 gy)):=⟨hwd,hk1,z0,z1,z6,((HX.out.1.roT HC.out.2.2.2.1) gW HX.out.2.2.2.2.2.1).2,((HX.out.1.roT HC.out.2.2.2.1) gy HX.out.2.2.2.2.2.2.2.1).2⟩
    clear hw1 hk1 hdr hwd kp hi0 hbk x0 x1 y0' m4' a0 e0 a1 e1
    go_wp2_with fail
    go_region_held3 (fun W=>W.cell? ⟨q,0,none⟩=some (.pointer (some ⟨gW,oW,none⟩))/\W.cell? ⟨q,1,none⟩=some (.int .i64 sy)/\W.cell? ⟨gW,oW,none⟩=some (.pointer (some ⟨gy,oy,none⟩))/\W.cell? ⟨gW,oW+1,none⟩=some (.int .i64 (i0:Int))/\W.cell? ⟨gy,oy+6,none⟩=some (.bool bk)) (first|exact HS1.out|go_keep)
     ((go_at_call 148;refine hadd.mono ?_;rintro e w2 ⟨rfl,h2⟩
       have HS1:Hid (w2.cell? ⟨q,0,none⟩=some (.pointer (some ⟨gW,oW,none⟩))/\w2.cell? ⟨q,1,none⟩=some (.int .i64 sy)/\w2.cell? ⟨gW,oW,none⟩=some (.pointer (some ⟨gy,oy,none⟩))/\w2.cell? ⟨gW,oW+1,none⟩=some (.int .i64 (i0:Int))/\w2.cell? ⟨gy,oy+6,none⟩=some (.bool bk)):=by
        have hk2:=h2.out.2.heap (show w1.drew.heap[q]?=_ from HW.out.2.1) HX.out.2.2.1.2
        exact ⟨aA hk2 0 rfl,aA hk2 1 rfl,h2.out.2.cell (show w1.drew.cell? _=_ from HW.out.2.2.1) HW.out.2.2.2.2.2.1,h2.out.2.cell (show w1.drew.cell? _=_ from HW.out.2.2.2.1) HW.out.2.2.2.2.2.1,h2.out.2.cell (show w1.drew.cell? _=_ from HW.out.2.2.2.2.1) HW.out.2.2.2.2.2.2⟩))
    have HN2:Hid (Z=Em.take (cs.drop (j+1)) (Em.dZ tj i0 sy bk) k1/\(Em.dZ tj i0 sy bk).length=n/\AtI E ns P T (fun _=>False) kb b w k w2 k1 (Em.dZ tj i0 sy bk) (c+(j+1))):=⟨e2.out,by rw[mT];exact HX.out.2.2.2.1,_,_,HW.out.1.into h2.out.1 h2.out.2⟩
    clear h2 hadd z0 z1 z6 u0 u1 e2 HW
    go_wp2_with fail
    go_roundg (N-(j+1))
    case measure=>omega
    case rel=>exact ⟨j+1,k1,_,rfl,by omega,by go_num,HN2.out⟩
  ·obtain rfl:j=N:=by omega
   have HF:Hid (dC E ns P T kb b w k (c+1000000) Z (.returned (.tuple #[])) wr):=.inr ⟨tj,kj,rfl,by rw[Hid,hr1,HV.out.2.2.1,List.drop_length];rfl,P1,T1,hT.more (by omega)⟩
   clear hr hr1 hr2 hT
   go_wp2_with fail
   go_end0
   exact HF.out
end
end Ew
end
end Go.Proofs.YtcdbhoknhnimcaaGreatDoor
