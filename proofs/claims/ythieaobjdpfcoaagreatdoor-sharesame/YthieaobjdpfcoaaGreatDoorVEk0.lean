import Derived.Test.YthieaobjdpfcoaaGreatDoorVEi
import Derived.Test.YthieaobjdpfcoaaGreatDoorVEf
set_option maxRecDepth 100000
set_option maxHeartbeats 16000000
namespace Go.Proofs.YthieaobjdpfcoaaGreatDoor
section
open Go.RowKit Px
namespace Ew
open Px.Em (Kd Vr eQ eR jP Rg)
open Nx (Nt Sp)
section
variable {P A:Nat->Prop}{w wr w2:World}{kb E d:Nat}{ns:List bE}{k kj k2:Kd}
theorem xJ (s:Sp) (h:eK E ns P w kb k) :
    Calls Tryz.prog 119 #[.pointer (some ⟨kb,0,none⟩),.agg #[.int .i64 s.code,.int .i64 s.dst,.int .i64 s.a,.int .i64 s.b,.int .i64 s.c]] w (fJ E ns P kb w k (Em.add s k) (fun _=>.tuple #[])):=by
 by_cases hcl:4000≤k.net.code.length
 ·exact (X8 s h hcl).mono fun e w' ⟨he,hf⟩=>.inl ⟨he,if_pos hcl,hf⟩
 ·exact (Gz (E:=E) s h (by omega) h.2.1.e (by omega)).mono fun e w' ⟨he,hf⟩=>.inr ⟨(),_,he,if_neg hcl,hf.out.1,hf.out.2,Int.le_refl _⟩
theorem aH5 (hE:E<1000000):∀(d:Nat) {P:Nat->Prop}{w:World}{k:Kd}{r:Rg d}{g:Nat},fH A d w r g->eS ns d r->eK E ns P w kb k->Ro A P w->
    Calls Tryz.prog 244 #[.pointer (some ⟨kb,0,none⟩),.pointer (some ⟨g,0,none⟩)] w (fJ E ns P kb w k ((Em.aJ d).over r k) (Value.int .i64))
 | 0,_,_,_,_,_,h,_,_,_=>h.elim
 | d+1,_,_,_,_,_,h,hk,hc,hR=>aH1 (σ:=St d) (ρ:=Rg d) h (Od.n hk) hc hR hE
def Aj (y:eQ) (so2:Int):Em.M Int:=if y.left=-1 then pure so2 else (Em.add ⟨7,y.left,y.left,so2,0⟩ >>= fun _=>Em.made 13 y.left so2 0)
def opC (y:eQ) (so1:Int):Em.M Int:=if Em.Er y.drawn.cond then pure so1 else (Em.eP y.drawn.cond >>= fun x=>Em.tX so1 x)
def yM (y:eQ) (so1:Int):Em.M Int:=if so1=-1 then pure (-1) else (opC y so1 >>= Aj y)
def Zz {σ ρ:Type}(O:Em.xM σ ρ) (s:eR σ ρ) (y:eQ) (so0:Int):Em.M Int:=if y.drawn.kind=2 then Em.wP O s.inside so0 else pure so0
theorem Mi {σ ρ:Type}{O:Em.xM σ ρ}{s:eR σ ρ}{y:eQ}{so0:Int}:Em.pX O s y so0=(Zz O s y so0 >>= yM y):=by
 unfold Em.pX Zz yM opC Aj
 by_cases h:y.drawn.kind=2<;>by_cases h2:Em.Er y.drawn.cond=true<;>by_cases h3:y.left=-1<;>simp only[h,h2,h3,if_true,if_false,Bool.false_eq_true,pure_bind,pA]
theorem Fl {g:Rg d}{l:List (Rg d)}{so:Int}:Em.wP (Em.aJ d) (g::l) so k=((Em.aJ d).over g >>= fun x=>Em.tX so x >>= fun so'=>Em.wP (Em.aJ d) l so') k:=rfl
theorem Qy (u:Option Addr) (w:World):(binOp BinOp.neq 220 (.pointer u) (.pointer none)).run Tryz.prog w=.ok (.bool u.isSome) w:=by cases u<;>kernel_rfl
theorem Hx {e:Px.E}{u:Option Addr}(h:jR A w e (.pointer u)):u.isSome=!Em.Er e:=by
 cases e with
 | nil=>have h:=h;injection h with h;rw[h];rfl
 | node _ _ _ _ _=>obtain ⟨g,_,_,h,_⟩:=h;injection h with h;rw[h];rfl
theorem aF4 (hE:E<1000000) {gS o gd od n gW oW:Nat}{s:eR (St d) (Rg d)}{y:eQ}{so0:Int}(hs:vS A w (fH A d w) gS o s gd od) (hK:B9 ns n (eS ns d) s) (ar:A gW) (hy:B6 A w gW oW y) (al:xK ns n y) (h:eK E ns P w kb k) (hR:Ro A P w) :
    Calls Tryz.prog 229 #[.pointer (some ⟨kb,0,none⟩),.pointer (some ⟨gS,o,none⟩),.pointer (some ⟨gW,oW,none⟩),.int .i64 so0] w (fJ E ns P kb w k (Em.pX (Em.aJ d) s y so0 k) (Value.int .i64)):=by
 obtain ⟨X,hX⟩:∃X,X=Em.pX (Em.aJ d) s y so0 k:=⟨_,rfl⟩
 have HX:Hid (X=(Zz (Em.aJ d) s y so0 >>= yM y) k):=by rw[Hid,hX,Mi]
 rw[<-hX]
 obtain ⟨gy,oy,pc,qs,y0,an,ah⟩:=hy.d
 obtain ⟨kd,ag⟩:∃kd:Int,kd=(y.drawn.kind:Int):=⟨_,rfl⟩
 have m0:=ah.1
 rw[<-ag] at m0
 obtain ⟨vi,q2,ba⟩:=hs.iy
 obtain ⟨ai,gi,ci,rfl,am,aj,av⟩:=ba
 obtain ⟨N,hN⟩:∃N,N=s.inside.length:=⟨_,rfl⟩
 rw[<-hN] at q2 am aj
 have HY:Hid (B6 A w gW oW y/\A gW/\w.cell? ⟨gW,oW,none⟩=some (.pointer (some ⟨gy,oy,none⟩))/\A gy/\jE A w gy oy y.drawn pc qs/\xK ns n y):=⟨hy,ar,y0,an,ah,al⟩
 have HI:Hid ((0<N->ai=some ⟨gi,0,none⟩/\A gi)/\(∀j r,s.inside[j]?=some r->∃gr,w.cell? ⟨gi,j,none⟩=some (.pointer (some ⟨gr,0,none⟩))/\fH A d w r gr)/\N=s.inside.length/\∀r∈s.inside,eS ns d r):=⟨aj,av,hN,hK.sub⟩
 have HC:Hid (eK E ns P w kb k/\Ro A P w):=⟨h,hR⟩
 have HP:Hid (∀b,P b->b<w.heap.size):=h.2.2
 have be:(N:Int)≤1000000:=by have:=hK.il;omega
 obtain ⟨B,hB⟩:∃B,(kd==2)=B:=⟨_,rfl⟩
 have ap:Hid (B=true↔y.drawn.kind=2):=by rw[Hid,<-hB,beq_iff_eq,ag];omega
 clear hs hK ar hy al h hR hX an ah ag am aj av hN
 go_enter Tryz.func229,Tryz.ntmps229
 go_upto_if 18 with fail
 clear hB
 go_cut [3] (fun s3 wx=>∃(I:Int) (k1:Kd),s3=.int .i64 I/\Hid (X=yM y I k1/\At E ns P kb w k wx k1))
 case first=>
  cases B with
  | true=>
   have ab:y.drawn.kind=2:=ap.out.1 rfl
   have HJ:Hid (X=(Em.wP (Em.aJ d) s.inside so0 >>= yM y) k):=by rw[Hid,HX.out];unfold Zz;rw[if_pos ab]
   clear ab
   go_wp2_with fail
   clear q2 m0 y0
   go_loopg [3,24] N (fun f sv i wr=>∃(j:Nat) (so:Int) (kj:Kd),f=N-j/\j≤N/\sv=.int .i64 so/\i=.int .i64 (j:Int)/\Hid (X=(Em.wP (Em.aJ d) (s.inside.drop j) so >>= yM y) kj/\At E ns P kb w k wr kj))
   case atStart=>exact ⟨0,so0,k,by omega,by omega,rfl,rfl,HJ.out,At.start HC.out.1⟩
   case round=>
    obtain ⟨j,so,kj,rfl,hj,rfl,rfl,hr⟩:=hrel
    obtain ⟨ae,U⟩:=hr.out
    by_cases hlt:j<N
    ·obtain ⟨r,hs⟩:∃r:Rg d,s.inside[j]?=some r:=⟨s.inside[j]'(by rw[<-HI.out.2.2.1];exact hlt),aN3 _⟩
     obtain ⟨gr,c0,au⟩:=HI.out.2.1 j r hs
     have O:=U.keep HC.out.2
     have bc:=Xp ai gi N ci j hlt (fun hp=>(HI.out.1 hp).1)
     have c0:=cL O (HI.out.1 (by omega)).2 c0
     have ao:=aH5 hE d (fH.carry d O _ _ au) (HI.out.2.2.2 r (aO7 hs)) U.1 (U.ro HC.out.2)
     have a0:Hid (At E ns P kb w k wr kj):=U
     have e0:Hid (X=((Em.aJ d).over r >>= fun x=>Em.tX so x >>= fun az=>Em.wP (Em.aJ d) (s.inside.drop (j+1)) az >>= yM y) kj):=by
      have hy:=Fl (k:=kj) (g:=r) (l:=s.inside.drop (j+1)) (so:=so)
      rw[<-dT hs] at hy
      refine ae.trans ((eH hy).trans ?_)
      simp only[pA]
     clear hr ae U au O hs
     go_wp2_with (first
      | (go_at_call 244;refine ao.mono ?_;rintro e w1 (⟨rfl,u,D⟩|⟨x1,k1,rfl,u,D⟩);(· exact ⟨rfl,At.ran HP.out a0.out e0.out (.inl ⟨rfl,aH u.out,D⟩)⟩);have a1:Hid (At E ns P kb w k w1 k1):=a0.out.step HP.out D.out;have e1:Hid _:=e0.out.trans (bind_some u.out);clear u D ao;have Q:=tW so x1 a1.out.1 hE)
      | (go_at_call 232;refine Q.mono ?_;rintro e w2 (⟨rfl,u,D⟩|⟨x2,k2,rfl,u,D⟩);(· exact ⟨rfl,At.ran HP.out a1.out e1.out (.inl ⟨rfl,aH u.out,D⟩)⟩);have a2:Hid (At E ns P kb w k w2 k2):=a1.out.step HP.out D.out;have e2:Hid _:=e1.out.trans (bind_some u.out);clear u D Q))
     go_roundg (N-(j+1))
     case measure=>omega
     case rel=>exact ⟨j+1,x2,k2,rfl,by omega,rfl,by go_num,e2.out,a2.out⟩
    ·obtain rfl:j=N:=by omega
     have ac:Hid (X=yM y so kj/\At E ns P kb w k wr kj):=⟨ae.trans (bind_some (by rw[HI.out.2.2.1,aP6];rfl)),U⟩
     clear hr ae U
     go_wp2_with fail
     go_meet
     case rel=>exact ⟨so,kj,rfl,ac.out⟩
  | false=>
   have ab:¬y.drawn.kind=2:=fun h=>absurd (ap.out.2 h) (by simp)
   have ac:Hid (X=yM y so0 k/\At E ns P kb w k w k):=⟨by rw[HX.out];unfold Zz;rw[if_neg ab];rfl,At.start HC.out.1⟩
   clear ab
   go_wp2_with fail
   go_meet
   case rel=>exact ⟨so0,k,rfl,ac.out⟩
 case rest=>
  obtain ⟨I,k1,rfl,Y⟩:=hcut
  clear q2 m0 y0
  by_cases hso:I=-1
  ·have t:(I == -1)=true:=by simpa using hso
   have HF:Hid (fJ E ns P kb w k X (Value.int .i64) (.returned (.int .i64 (-1))) wc):=At.ends Y.out.2 (by rw[Y.out.1];unfold yM;rw[if_pos hso];rfl)
   clear Y hso
   go_wp2_with fail
   go_ret
   exact HF.out
  ·have t:(I == -1)=false:=by simpa using hso
   have O:=Y.out.2.keep HC.out.2
   have y0:=cL O HY.out.2.1 HY.out.2.2.1
   have m2:=cL O HY.out.2.2.2.1 HY.out.2.2.2.2.1.2.2.1
   obtain ⟨B2,ak⟩:∃B2,pc.isSome=B2:=⟨_,rfl⟩
   have ax:∀w,(binOp BinOp.neq 220 (.pointer pc) (.pointer none)).run Tryz.prog w=.ok (.bool B2) w:=fun w=>by rw[<-ak];exact Qy pc w
   have aw:Hid (B2=!Em.Er y.drawn.cond):=by rw[Hid,<-ak];exact Hx HY.out.2.2.2.2.1.2.2.2.2.2.2.2.1
   have a0:Hid (At E ns P kb w k wc k1):=Y.out.2
   have e0:Hid (X=(opC y I >>= Aj y) k1):=by rw[Hid,Y.out.1];unfold yM;rw[if_neg hso]
   clear Y hso O ak
   go_upto_if 44 with fail
   clear t ax
   go_cut [3] (fun s3 wx=>∃(J:Int) (k2:Kd),s3=.int .i64 J/\Hid (X=Aj y J k2/\At E ns P kb w k wx k2))
   case first=>
    cases B2 with
    | true=>
     have aa:Em.Er y.drawn.cond=false:=by have:=aw.out;cases h:Em.Er y.drawn.cond;rfl;rw[h] at this;exact absurd this (by simp)
     have e1:Hid (X=(Em.eP y.drawn.cond >>= fun x=>Em.tX I x >>= Aj y) k1):=by
      rw[Hid,e0.out]
      unfold opC
      rw[aa,if_neg (by simp)]
      simp only[pA]
     have O:=a0.out.keep HC.out.2
     have hex:=lN (A:=A) (kb:=kb) (ns:=ns) hE y.drawn.cond HY.out.2.2.2.2.2.c (HY.out.2.2.2.2.1.2.2.2.2.2.2.2.1.carry O) a0.out.1 (a0.out.ro HC.out.2)
     have a1:=a0
     clear aa O a0 e0
     go_wp2_with (first
      | (go_at_call 206;refine hex.mono ?_;rintro e w2 (⟨rfl,u,D⟩|⟨x2,k2,rfl,u,D⟩);(· exact ⟨rfl,At.ran HP.out a1.out e1.out (.inl ⟨rfl,aH u.out,D⟩)⟩);have a2:Hid (At E ns P kb w k w2 k2):=a1.out.step HP.out D.out;have e2:Hid _:=e1.out.trans (bind_some u.out);clear u D hex;have Q:=tW I x2 a2.out.1 hE)
      | (go_at_call 232;refine Q.mono ?_;rintro e w3 (⟨rfl,u,D⟩|⟨x3,k3,rfl,u,D⟩);(· exact ⟨rfl,At.ran HP.out a2.out e2.out (.inl ⟨rfl,aH u.out,D⟩)⟩);have a3:Hid (At E ns P kb w k w3 k3):=a2.out.step HP.out D.out;have e3:Hid _:=e2.out.trans (bind_some u.out);clear u D Q))
     go_meet
     case rel=>exact ⟨x3,k3,rfl,e3.out,a3.out⟩
    | false=>
     have aa:Em.Er y.drawn.cond=true:=by have:=aw.out;cases h:Em.Er y.drawn.cond;rw[h] at this;exact absurd this (by simp);rfl
     have ac:Hid (X=Aj y I k1/\At E ns P kb w k wc k1):=⟨by rw[e0.out];unfold opC;rw[aa,if_pos rfl];rfl,a0.out⟩
     clear aa a0 e0
     go_wp2_with fail
     go_meet
     case rel=>exact ⟨I,k1,rfl,ac.out⟩
   case rest=>
    obtain ⟨wq,bb⟩:∃wq,wq=wc:=⟨wc,rfl⟩
    clear a0 e0 y0 m2 bb wq
    obtain ⟨J,k2,rfl,Y⟩:=hcut
    rename_i wd
    have O:=Y.out.2.keep HC.out.2
    have y2:=cL O HY.out.2.1 HY.out.1.l
    by_cases hl:y.left=-1
    ·have t:(y.left == -1)=true:=by simpa using hl
     have t':(y.left != -1)=false:=by simp[hl]
     have HF:Hid (fJ E ns P kb w k X (Value.int .i64) (.returned (.int .i64 J)) _):=At.ends Y.out.2 (by rw[Y.out.1];unfold Aj;rw[if_pos hl];rfl)
     clear Y hl O
     go_wp2_with fail
     go_ret
     exact HF.out
    ·have t:(y.left == -1)=false:=by simpa using hl
     have t':(y.left != -1)=true:=by simp[hl]
     have hdr:Below wc.heap.size wc wc.drew:=⟨rfl,rfl,rfl,aN4 _,fun _ _=>rfl⟩
     have a2:Hid (At E ns P kb w k wc.drew k2):=Y.out.2.below HP.out hdr
     have e2:Hid (X=(Em.add ⟨7,y.left,y.left,J,0⟩ >>= fun _=>Em.made 13 y.left J 0) k2):=by rw[Hid,Y.out.1];unfold Aj;rw[if_neg hl]
     have Z:=xJ ⟨7,y.left,y.left,J,0⟩ a2.out.1
     obtain ⟨lf,af⟩:∃lf,lf=y.left:=⟨_,rfl⟩
     have ay:Hid (lf=y.left):=af
     rw[<-af] at y2 t t' e2 Z
     clear Y hl O hdr af
     go_upto_region 12 with fail
     go_region_law (go_simp;go_at_call 119;refine Z.mono ?_;rintro e w3 (⟨rfl,u,D⟩|⟨_,k3,rfl,u,D⟩);(· exact ⟨rfl,At.ran HP.out a2.out e2.out (.inl ⟨rfl,aH u.out,D⟩)⟩);have a3:Hid (At E ns P kb w k w3 k3):=a2.out.step HP.out D.out;have e3:Hid _:=e2.out.trans (bind_some u.out);clear u D Z)
     all_goals
      have O:=a3.out.keep HC.out.2
      have z2:=cL O HY.out.2.1 HY.out.1.l
      rw[<-ay.out] at z2
      have ad:=gU 13 lf J 0 a3.out.1 hE
      clear O
      go_wp2_with (go_at_call 205;refine ad.mono ?_;rintro e w4 (⟨rfl,u,D⟩|⟨x4,k4,rfl,u,D⟩);(· exact ⟨rfl,At.ran HP.out a3.out e3.out (.inl ⟨rfl,u.out,D⟩)⟩);have a4:Hid (At E ns P kb w k w4 k4):=a3.out.step HP.out D.out;have e4:Hid _:=e3.out.trans u.out;clear u D ad)
      go_ret
      exact At.ends a4.out e4.out
end
section
variable {P A:Nat->Prop}{w:World}{kb E:Nat}{ns:List bE}{k:Kd}
theorem aB0 {v:bQ}{r:List bQ}(h:(k.vars v.name).was=-1):Em.dN (v::r) k=Em.dN r k:=by
 show (if (k.vars v.name).was=-1 then Em.dN r else _) k=_
 rw[if_pos h]
theorem Wj {v:bQ}{r:List bQ}(h:(k.vars v.name).was≠-1):Em.dN (v::r) k=(Em.add ⟨2,(k.vars v.name).was,(k.vars v.name).now,0,0⟩ >>= fun _=>Em.dN r) k:=by
 show (if (k.vars v.name).was=-1 then Em.dN r else _) k=_
 rw[if_neg h]
theorem aD6 {vs:List bQ}{v:Value}(X:mJ A w vs v) (ai:∀x∈vs,x.name.length≤maxLen) (ar:vs.length≤100000) (h:eK E ns P w kb k) (hR:Ro A P w) :
    Calls Tryz.prog 72 #[.pointer (some ⟨kb,0,none⟩),v] w (fJ E ns P kb w k (Em.dN vs k) (fun _=>.tuple #[])):=by
 obtain ⟨ad,gd,cap,rfl,am,hg,aj⟩:=Zj X
 obtain ⟨n,hn⟩:∃n,n=vs.length:=⟨_,rfl⟩
 rw[<-hn] at hg ar ⊢
 obtain ⟨Z,hZ⟩:∃Z,Z=Em.dN vs k:=⟨_,rfl⟩
 have HZ:Hid (Z=Em.dN vs k):=hZ
 rw[<-hZ]
 have HH:Hid (eK E ns P w kb k/\Ro A P w):=⟨h,hR⟩
 have HP:Hid (∀b,P b->b<w.heap.size):=h.2.2
 have HV:Hid ((∀x∈vs,x.name.length≤maxLen)/\n=vs.length):=⟨ai,hn⟩
 have HG:Hid (0<n->ad=some ⟨gd,0,none⟩/\A gd):=hg
 have ap:Hid (∀(i:Nat) (a:bQ),vs[i]?=some a->w.cell? ⟨gd,i*3,none⟩=some (.int .i64 (a.kind:Int))/\w.cell? ⟨gd,i*3+1,none⟩=some (sv a.name)/\w.cell? ⟨gd,i*3+2,none⟩=some (.int .i64 a.first)):=aj
 clear X ai h hR hn hZ hg aj am
 go_enter Tryz.func72,Tryz.ntmps72
 go_upto_region 1 with fail
 go_loopg [9] n (fun f i wr=>∃(j:Nat) (kj:Kd),f=n-j/\j≤n/\i=.int .i64 (j:Int)/\Hid (Z=Em.dN (vs.drop j) kj/\At E ns P kb w k wr kj))
 case atStart=>exact ⟨0,k,by omega,by omega,rfl,HZ.out,At.start HH.out.1⟩
 case round=>
  obtain ⟨j,kj,rfl,hj,rfl,hr⟩:=hrel
  obtain ⟨D,hA⟩:=hr.out
  by_cases hlt:j<n
  ·obtain ⟨x,hx⟩:∃x:bQ,vs[j]?=some x:=⟨_,aN3 (by rw[<-HV.out.2];exact hlt)⟩
   have Y:=aO7 hx
   have kp:bB A A w wr:=hA.keep HH.out.2
   obtain ⟨c0,c1,c2⟩:=ap.out j x hx
   have s:=(HG.out (by omega)).2
   have c0:=cL kp s c0
   have c1:=cL kp s c1
   have c2:=cL kp s c2
   have ac:=ixV ad gd n cap j hlt (fun hp=>(HG.out hp).1)
   obtain ⟨o,ho⟩:∃o,o=j*3:=⟨_,rfl⟩
   rw[<-ho] at c0 c1 c2 ac
   obtain ⟨S,hS⟩:∃S,Value.string S=sv x.name:=⟨_,rfl⟩
   rw[<-hS] at c1
   obtain ⟨K,hK⟩:∃K:Int,K=(x.kind:Int):=⟨_,rfl⟩
   rw[<-hK] at c0
   obtain ⟨F,ag⟩:∃F:Int,F=x.first:=⟨_,rfl⟩
   rw[<-ag] at c2
   obtain ⟨V,X⟩:∃V,V=wr.alloc (.cells #[.int .i64 K,.string S,.int .i64 F] 126):=⟨_,rfl⟩
   obtain ⟨q,hq⟩:∃q,q=wr.heap.size:=⟨_,rfl⟩
   have ah:Below wr.heap.size wr V:=by rw[X];exact aL _ _
   have ae:V.heap[q]?=some (.cells #[.int .i64 K,.string S,.int .i64 F] 126 (0,0)):=by rw[X,hq];exact aX wr _
   have J:=hA.below HP.out ah
   have v1:=aF ae 1 (u:=.string S) rfl
   obtain ⟨c,hc⟩:=J.1.1
   have c7:=hc.cell 7 (u:=.map (some c.mv)) rfl
   obtain ⟨r,l,Q,hv⟩:∃r l Q,kj.vars x.name=⟨r,l,Q⟩:=⟨_,_,_,rfl⟩
   have al:(Instr.lookup 132 (.map (some c.mv)) (.string S) false).run Tryz.prog V.drew=.ok (.agg #[.int .i64 r,.int .i64 l,.int .i64 Q]) V.drew:=by
    have U:CM (Up P w V) V.drew kb kj c:=hc.carry fun b hb _=>⟨hb,rfl⟩
    rw[hS,U.lookV (HV.out.1 x Y),hv];rfl
   have y:=aL V (.cells #[.int .i64 0,.int .i64 0,.int .i64 0] 183)
   have af:(Instr.lookup 132 (.map (some c.mv)) (.string S) false).run Tryz.prog (V.alloc (.cells #[.int .i64 0,.int .i64 0,.int .i64 0] 183)).drew=.ok (.agg #[.int .i64 r,.int .i64 l,.int .i64 Q]) (V.alloc (.cells #[.int .i64 0,.int .i64 0,.int .i64 0] 183)).drew:=by
    have U:CM (Up P w V) (V.alloc (.cells #[.int .i64 0,.int .i64 0,.int .i64 0] 183)).drew kb kj c:=(hc.below y).carry fun b hb _=>⟨hb,rfl⟩
    rw[hS,U.lookV (HV.out.1 x Y),hv];rfl
   have an:=aN y v1
   have ao:=aN y c7
   have HJ:Hid (At E ns P kb w k V kj/\Z=Em.dN (vs.drop j) kj/\vs[j]?=some x/\kj.vars x.name=⟨r,l,Q⟩):=⟨J,D,hx,hv⟩
   obtain ⟨W,hW⟩:∃W,W=(V.alloc (.cells #[.int .i64 r,.int .i64 l,.int .i64 Q] 183)).drew:=⟨_,rfl⟩
   obtain ⟨q2,ab⟩:∃q2,q2=V.heap.size:=⟨_,rfl⟩
   have ak:Below V.heap.size V W:=by rw[hW];exact (aL _ _).drew
   have aa:W.heap[q2]?=some (.cells #[.int .i64 r,.int .i64 l,.int .i64 Q] 183 (0,0)):=by rw[hW,ab];exact aX V _
   have I:Hid (At E ns P kb w k W kj):=J.below HP.out ak
   have x0:=aF aa 0 (u:=.int .i64 r) rfl
   have x1:=aF aa 1 (u:=.int .i64 l) rfl
   clear hr D hA J hx Y kp s ho hS hK ag ah ae hc hv ak aa y
   go_upto_region 3 with fail
   rw[<-X,<-hq]
   clear X hq ac c0 c1 c2
   go_region
   all_goals
    rw[<-hW,<-ab]
    clear hW ab c7 al v1 af an ao
    by_cases hw:l=-1
    ·have t:(l == -1)=true:=by simpa using hw
     have t':(l != -1)=false:=by simp[hw]
     have HL:Hid (Z=Em.dN (vs.drop (j+1)) kj):=by
      obtain ⟨_,l2,l3,l4⟩:=HJ.out
      rw[Hid,l2,dT l3,aB0 (by rw[l4];exact hw)]
     clear hw
     go_wp2_with fail
     go_roundg (n-(j+1))
     case measure=>omega
     case rel=>exact ⟨j+1,kj,rfl,by omega,by go_num,HL.out,I.out⟩
    ·have t:(l == -1)=false:=by simpa using hw
     have t':(l != -1)=true:=by simp[hw]
     have HL:Hid (Z=(Em.add ⟨2,l,r,0,0⟩ >>= fun _=>Em.dN (vs.drop (j+1))) kj):=by
      obtain ⟨_,l2,l3,l4⟩:=HJ.out
      rw[Hid,l2,dT l3,Wj (by rw[l4];exact hw),l4]
     have O:=xJ ⟨2,l,r,0,0⟩ I.out.1
     clear hw
     go_wp2_with (go_at_call 119;refine O.mono ?_;rintro e w3 (⟨rfl,h0,h1⟩|⟨_,k3,rfl,h0,h1⟩);(· exact ⟨rfl,At.ran HP.out I.out HL.out (.inl ⟨rfl,aH h0.out,h1⟩)⟩);have a3:Hid (At E ns P kb w k w3 k3):=I.out.step HP.out h1.out;have e3:Hid _:=HL.out.trans (bind_some h0.out);clear h0 h1 O)
     go_roundg (n-(j+1))
     case measure=>omega
     case rel=>exact ⟨j+1,k3,rfl,by omega,by go_num,e3.out,a3.out⟩
  ·have HF:Hid (fJ E ns P kb w k Z (fun _=>.tuple #[]) (.returned (.tuple #[])) wr):=by
    refine At.ends (a:=()) hA ?_
    rw[D,aW8 (by rw[<-HV.out.2];omega)]
    rfl
   clear hr D hA
   go_wp2_with fail
   go_end0
   exact HF.out
end
def Zy (A:Nat->Prop) (w:World) (c:eQ×Int) (cs:List Value):Prop:=∃gW oW,cs=[.pointer (some ⟨gW,oW,none⟩),.int .i64 c.2]/\A gW/\B6 A w gW oW c.1
theorem Zy.carry {A A':Nat->Prop}{w w':World}(k:bB A A' w w') (c:eQ×Int) (cs:List Value) (h:Zy A w c cs):Zy A' w' c cs:=by
 obtain ⟨j,s,r,n,l⟩:=h
 exact ⟨j,s,r,(k j n (aY3 w _ l.t)).1,B6.carry k n l⟩
def qI (A:Nat->Prop) (w:World) (v:Value) (cs:List (eQ×Int)):Prop:=∃xs,w.ownsRow 0 305 2 v cs.length xs/\Rows (Zy A w) cs xs
def Zf (E:Nat) (ns:List bE) (P X:Nat->Prop) (kb:Nat) (w:World) (k:Kd) (wr:World) (kj:Kd):Prop:=
 ∃P1,eK E ns P1 wr kb kj/\(∀x,P1 x->Up P w wr x/\¬X x)/\(∀x,X x->x<wr.heap.size)/\bM P w wr/\k.net.places≤kj.net.places
def zR (E:Nat) (ns:List bE) (P A:Nat->Prop) (n kb:Nat) (w:World) (k:Kd) (o:Option ((List (eQ×Int)×Int)×Kd)) (e:Ending) (w':World):Prop:=
 (e=Vl/\Hid (o=none)/\Hid (bM P w w'))\/∃cs t k' ac nc cc,e=.returned (.tuple #[.slice ac nc cc,.int .i64 t])/\Hid (o=some ((cs,t),k'))/\Hid (Zf E ns P (fun b=>(Value.slice ac nc cc).ownBlock=some b) kb w k w' k'/\qI A w' (.slice ac nc cc) cs/\(∀g,(Value.slice ac nc cc).ownBlock=some g->w.heap.size≤g)/\(∀c∈cs,xK ns n c.1)/\nc=cs.length/\cs.length≤1000000)
section
variable {P A:Nat->Prop}{w wr w2:World}{kb E d:Nat}{ns:List bE}{k kj k2:Kd}
theorem Xw:(Tryz.prog.info? 305).map (fun i=>(i.zero,i.size,i.bytes))=some (some (.agg #[.pointer none,.int .i64 0]),2,16):=by kernel_rfl
theorem V3 {s:eR (St d) (Rg d)}{so rest ahead taken:Int}{f:Wy->Bool}{y:eQ}{r:List eQ}{l:List (eQ×Int)}(h:so=-1\/f y.drawn=false):Em.gG (Em.aJ d) s so f (y::r) rest ahead taken l k=Em.gG (Em.aJ d) s so f r rest ahead taken l k:=by rw[Em.gG,if_pos h]
def Xm {s:eR (St d) (Rg d)}(so taken:Int) (f:Wy->Bool) (y:eQ) (r:List eQ) (l:List (eQ×Int)) (rest' ahead':Int):Em.M (List (eQ×Int)×Int):=
 if ahead'=rest' then pure (l++[(y,ahead')],so) else (Em.uZ taken ahead' >>= fun t=>Em.gG (Em.aJ d) s so f r rest' ahead' t (l++[(y,ahead')]))
theorem Gj {s:eR (St d) (Rg d)}{so rest ahead c:Int}{f:Wy->Bool}{y:eQ}{r:List eQ}{l:List (eQ×Int)}(h:¬(so=-1\/f y.drawn=false)) :
    Em.gG (Em.aJ d) s so f (y::r) rest ahead c l k=(Em.dU rest ahead >>= fun rest'=>Em.pX (Em.aJ d) s y rest' >>= fun ahead'=>Xm (s:=s) so c f y r l rest' ahead') k:=by
 rw[Em.gG,if_neg h]
 rfl
theorem aN0 {gy oy:Nat}{y:Wy}{p:Option Addr}{q:Value}(h:jE A w gy oy y p q):Calls Tryz.prog 203 #[.pointer (some ⟨gy,oy,none⟩)] w fun e w'=>e=.returned (.bool ((fun y=>decide (y.kind=1)) y))/\w'=w:=by
 have c0:=h.1
 have c1:=h.2.1
 have hb:((y.kind:Int)==1)=decide (y.kind=1):=by rw[Bool.eq_iff_iff];simp;omega
 have j:((y.kind:Int) != 1)=!decide (y.kind=1):=by rw[bne,hb]
 obtain ⟨kd,c⟩:∃kd:Int,kd=(y.kind:Int):=⟨_,rfl⟩
 rw[<-c] at c0 hb j
 clear h c
 cases hnow:y.now
 all_goals
  rw[hnow] at c1
  clear hnow
  go_enter Tryz.func203,Tryz.ntmps203
  go_wp2_with fail
  go_ret
  exact ⟨rfl,rfl⟩
theorem aM9 {gy oy:Nat}{y:Wy}{p:Option Addr}{q:Value}(h:jE A w gy oy y p q):Calls Tryz.prog 210 #[.pointer (some ⟨gy,oy,none⟩)] w fun e w'=>e=.returned (.bool ((fun y=>!decide (y.kind=1)) y))/\w'=w:=by
 have c0:=h.1
 have c1:=h.2.1
 have hb:((y.kind:Int)==1)=decide (y.kind=1):=by rw[Bool.eq_iff_iff];simp;omega
 have j:((y.kind:Int) != 1)=!decide (y.kind=1):=by rw[bne,hb]
 obtain ⟨kd,c⟩:∃kd:Int,kd=(y.kind:Int):=⟨_,rfl⟩
 rw[<-c] at c0 hb j
 clear h c
 cases hnow:y.now
 all_goals
  rw[hnow] at c1
  clear hnow
  go_enter Tryz.func210,Tryz.ntmps210
  go_wp2_with fail
  go_ret
  exact ⟨rfl,rfl⟩
theorem aM8 {gy oy:Nat}{y:Wy}{p:Option Addr}{q:Value}(h:jE A w gy oy y p q):Calls Tryz.prog 231 #[.pointer (some ⟨gy,oy,none⟩)] w fun e w'=>e=.returned (.bool ((fun y=>y.now&&decide (y.kind=1)) y))/\w'=w:=by
 have c0:=h.1
 have c1:=h.2.1
 have hb:((y.kind:Int)==1)=decide (y.kind=1):=by rw[Bool.eq_iff_iff];simp;omega
 have j:((y.kind:Int) != 1)=!decide (y.kind=1):=by rw[bne,hb]
 obtain ⟨kd,c⟩:∃kd:Int,kd=(y.kind:Int):=⟨_,rfl⟩
 rw[<-c] at c0 hb j
 clear h c
 cases hnow:y.now
 all_goals
  rw[hnow] at c1
  simp only[hnow]
  clear hnow
  go_enter Tryz.func231,Tryz.ntmps231
  go_wp2_with fail
  go_ret
  exact ⟨rfl,rfl⟩
theorem aM7 {gy oy:Nat}{y:Wy}{p:Option Addr}{q:Value}(h:jE A w gy oy y p q):Calls Tryz.prog 234 #[.pointer (some ⟨gy,oy,none⟩)] w fun e w'=>e=.returned (.bool ((fun y=>y.now && !decide (y.kind=1)) y))/\w'=w:=by
 have c0:=h.1
 have c1:=h.2.1
 have hb:((y.kind:Int)==1)=decide (y.kind=1):=by rw[Bool.eq_iff_iff];simp;omega
 have j:((y.kind:Int) != 1)=!decide (y.kind=1):=by rw[bne,hb]
 obtain ⟨kd,c⟩:∃kd:Int,kd=(y.kind:Int):=⟨_,rfl⟩
 rw[<-c] at c0 hb j
 clear h c
 cases hnow:y.now
 all_goals
  rw[hnow] at c1
  simp only[hnow]
  clear hnow
  go_enter Tryz.func234,Tryz.ntmps234
  go_wp2_with fail
  go_ret
  exact ⟨rfl,rfl⟩
theorem qI.keep {w':World}{v:Value}{cs:List (eQ×Int)}(h:qI A w v cs) (c:bB A A w w') (j:∀g,v.ownBlock=some g->w'.heap[g]?=w.heap[g]?):qI A w' v cs:=by
 obtain ⟨r,n,l⟩:=h
 exact ⟨r,eY (A:=fun b=>v.ownBlock=some b) (A':=fun _=>True) n (fun _ h=>h) (fun b hb _=>⟨trivial,j b hb⟩),l.map (Zy.carry c)⟩
theorem Zf.next {X c:Nat->Prop}(p2:∀x,c x->Up P w wr x/\¬X x) (p3:∀x,X x->x<wr.heap.size) (p4:bM P w wr) (p5:k.net.places≤kj.net.places) (h:At E ns c kb wr kj w2 k2):Zf E ns P X kb w k w2 k2:=by
 have j:bM P w w2:=p4.trans h.2.1 fun b hb l=>(p2 b l).1.elim id fun h=>absurd h.1 (by omega)
 refine ⟨_,h.1,fun x hx=>?_,fun x hx=>aO2 (p3 x hx) h.2.1.size,j,aX9 p5 h.2.2⟩
 have:=h.2.1.size
 have:=p4.size
 rcases hx with hx|hx
 ·exact ⟨Up.size h.2.1.size x (p2 x hx).1,(p2 x hx).2⟩
 ·exact ⟨.inr ⟨by omega,hx.2⟩,fun h=>absurd (p3 x h) (by omega)⟩
theorem Yn {l:Nat->Prop}{n X oW:Nat}{y:eQ}{x2:Int}{v v5:Value}{cs:List (eQ×Int)}{xs news:List Value}{ob:Obj}{w5:World}(hR:Ro A P w) (ac:Ro A l wr) (Z:B6 A wr X oW y) (u:A X) (Y:xK ns n y) (p2:∀x,l x->Up P w wr x/\¬(v.ownBlock=some x)) (p3:∀x,v.ownBlock=some x->x<wr.heap.size) (p4:bM P w wr) (p5:k.net.places≤kj.net.places) (J:Rows (Zy A wr) cs xs) (h4:∀g,v.ownBlock=some g->w.heap.size≤g) (h5:∀c∈cs,xK ns n c.1) (s:At E ns l kb wr kj w2 k2)
    (r:news=[.pointer (some ⟨X,oW,none⟩),.int .i64 x2]) (j:w5.ownsRow 0 305 2 v5 (cs.length+1) (xs++news)) (Q:(w2.alloc ob).grownBy w5 v.ownBlock) (D:v5.ownBlock=v.ownBlock\/v5.ownBlock=some (w2.alloc ob).heap.size) :
    Zf E ns P (fun b=>v5.ownBlock=some b) kb w k w5 k2/\qI A w5 v5 (cs++[(y,x2)])/\(∀g,v5.ownBlock=some g->w.heap.size≤g)/\∀c∈cs++[(y,x2)],xK ns n c.1:=by
 have s1:=p4.size
 have s2:=s.2.1.size
 have s3:(w2.alloc ob).heap.size=w2.heap.size+1:=by simp
 have s4:=Q.size
 have U:∀x,Up l wr w2 x->x<w2.heap.size/\v.ownBlock≠some x:=fun x hx=>by
  refine ⟨s.1.2.2 x hx,fun h=>?_⟩
  rcases hx with hx|hx
  ·exact (p2 x hx).2 h
  ·exact absurd (p3 x h) (by omega)
 have hA:∀x,A x->v.ownBlock≠some x:=fun x hx h=>absurd (h4 x h) (by have:=(hR x hx).1;omega)
 have I:bB A A wr w5:=fun b hb hl=>⟨hb,by rw[Q.block b (by omega) (fun e=>hA b hb e.symm),Below.heap_alloc _ _ _ (by omega),(s.keep ac b hb hl).2]⟩
 have aa:bB (Up l wr w2) (Up l wr w2) w2 w5:=fun b hb hl=>⟨hb,by rw[Q.block b (by omega) (fun e=>(U b hb).2 e.symm),Below.heap_alloc _ _ _ hl]⟩
 have ab:bM P w w2:=p4.trans s.2.1 fun b hb hq=>(p2 b hq).1.elim id fun h=>absurd h.1 (by omega)
 refine ⟨⟨Up l wr w2,⟨s.1.1.imp fun _ h=>h.carry aa,s.1.2.1,fun b hb=>by have:=(U b hb).1;omega⟩,fun x hx=>⟨?_,fun h=>?_⟩,fun x hx=>(j.lt x hx).2,(ab.alloc ob).grown Q fun b hb=>.inr (h4 b hb),aX9 p5 s.2.2⟩,⟨_,by rw[aO6];exact j,(J.map (Zy.carry I)).append (Rows.one ⟨X,oW,r,u,B6.carry I u Z⟩)⟩,fun g h=>?_,fun c O=>?_⟩
 ·rcases hx with hx|hx
  ·exact Up.size (by omega) x (p2 x hx).1
  ·exact .inr ⟨by omega,by omega⟩
 ·rcases D with e|e
  ·exact (U x hx).2 (e.symm.trans h)
  ·rw[h] at e;injection e with e;have:=(U x hx).1;omega
 ·rcases D with e|e
  ·exact h4 g (e.symm.trans h)
  ·rw[h] at e;injection e with e;omega
 ·rcases aP5.1 O with O|O
  ·exact h5 c O
  ·rw[aP1.1 O];exact Y
theorem Yo {s:eR (St d) (Rg d)}{so taken:Int}{f:Wy->Bool}{y:eQ}{r:List eQ}{l:List (eQ×Int)}{a b:Int}(h:b=a):Xm (s:=s) so taken f y r l a b k=some ((l++[(y,b)],so),k):=by unfold Xm;rw[if_pos h];rfl
theorem aG2 {s:eR (St d) (Rg d)}{so taken:Int}{f:Wy->Bool}{y:eQ}{r:List eQ}{l:List (eQ×Int)}{a b:Int}(h:¬b=a):Xm (s:=s) so taken f y r l a b k=(Em.uZ taken b >>= fun t=>Em.gG (Em.aJ d) s so f r a b t (l++[(y,b)])) k:=by unfold Xm;rw[if_neg h]
end
end Ew
end
end Go.Proofs.YthieaobjdpfcoaaGreatDoor
