import Derived.Test.YtcdbhoknhnimcaaGreatDoorTEi
import Derived.Test.YtcdbhoknhnimcaaGreatDoorTEf
set_option maxRecDepth 100000
set_option maxHeartbeats 16000000
namespace Go.Proofs.YtcdbhoknhnimcaaGreatDoor
section
open Go.RowKit Px
namespace Ew
open Px.Em (Kd Vr eL eM jG Rg)
open Nx (Nt Sp)
section
variable {P A:Nat->Prop}{w wr w2:World}{kb E d:Nat}{ns:List bB}{k kj k2:Kd}
theorem qE (s:Sp) (h:eG E ns P w kb k) :
    Calls Tryz.prog 150 #[.pointer (some ⟨kb,0,none⟩),.agg #[.int .i64 s.code,.int .i64 s.dst,.int .i64 s.a,.int .i64 s.b,.int .i64 s.c]] w (eY E ns P kb w k (Em.add s k) (fun _=>.tuple #[])):=by
 by_cases hcl:4000≤k.net.code.length
 ·exact (J7 s h hcl).mono fun e w' ⟨he,hf⟩=>.inl ⟨he,if_pos hcl,hf⟩
 ·exact (Eo (E:=E) s h (by omega) h.2.1.e (by omega)).mono fun e w' ⟨he,hf⟩=>.inr ⟨(),_,he,if_neg hcl,hf.out.1,hf.out.2,Int.le_refl _⟩
theorem Ns (hE:E<1000000):∀(d:Nat) {P:Nat->Prop}{w:World}{k:Kd}{r:Rg d}{g:Nat},eV A d w r g->eN ns d r->eG E ns P w kb k->Ro A P w->
    Calls Tryz.prog 272 #[.pointer (some ⟨kb,0,none⟩),.pointer (some ⟨g,0,none⟩)] w (eY E ns P kb w k ((Em.aG d).over r k) (Value.int .i64))
 | 0,_,_,_,_,_,h,_,_,_=>h.elim
 | d+1,_,_,_,_,_,h,hk,hc,hR=>Ir (σ:=St d) (ρ:=Rg d) h (Lp.n hk) hc hR hE
def V7 (y:eL) (so2:Int):Em.M Int:=if y.left=-1 then pure so2 else (Em.add ⟨7,y.left,y.left,so2,0⟩ >>= fun _=>Em.made 13 y.left so2 0)
def opC (y:eL) (so1:Int):Em.M Int:=if Em.Cj y.drawn.cond then pure so1 else (Em.eK y.drawn.cond >>= fun x=>Em.sP so1 x)
def xC (y:eL) (so1:Int):Em.M Int:=if so1=-1 then pure (-1) else (opC y so1 >>= V7 y)
def opJ {σ ρ:Type}(O:Em.vT σ ρ) (s:eM σ ρ) (y:eL) (so0:Int):Em.M Int:=if y.drawn.kind=2 then Em.uU O s.inside so0 else pure so0
theorem Jv {σ ρ:Type}{O:Em.vT σ ρ}{s:eM σ ρ}{y:eL}{so0:Int}:Em.pD O s y so0=(opJ O s y so0 >>= xC y):=by
 unfold Em.pD opJ xC opC V7
 by_cases h:y.drawn.kind=2<;>by_cases h2:Em.Cj y.drawn.cond=true<;>by_cases h3:y.left=-1<;>simp only[h,h2,h3,if_true,if_false,Bool.false_eq_true,pure_bind,oD]
theorem Dd {g:Rg d}{l:List (Rg d)}{so:Int}:Em.uU (Em.aG d) (g::l) so k=((Em.aG d).over g >>= fun x=>Em.sP so x >>= fun so'=>Em.uU (Em.aG d) l so') k:=rfl
theorem Oe (u:Option Addr) (w:World):(binOp BinOp.neq 253 (.pointer u) (.pointer none)).run Tryz.prog w=.ok (.bool u.isSome) w:=by cases u<;>kernel_rfl
theorem Fg {e:Px.E}{u:Option Addr}(h:jI A w e (.pointer u)):u.isSome=!Em.Cj e:=by
 cases e with
 | nil=>have h:=h;injection h with h;rw[h];rfl
 | node _ _ _ _ _=>obtain ⟨g,_,_,h,_⟩:=h;injection h with h;rw[h];rfl
theorem Di (hE:E<1000000) {gS o gd od n gW oW:Nat}{s:eM (St d) (Rg d)}{y:eL}{so0:Int}(hs:uG A w (eV A d w) gS o s gd od) (hK:zA ns n (eN ns d) s) (hAW:A gW) (hy:yX A w gW oW y) (hyK:vS ns n y) (h:eG E ns P w kb k) (hR:Ro A P w) :
    Calls Tryz.prog 257 #[.pointer (some ⟨kb,0,none⟩),.pointer (some ⟨gS,o,none⟩),.pointer (some ⟨gW,oW,none⟩),.int .i64 so0] w (eY E ns P kb w k (Em.pD (Em.aG d) s y so0 k) (Value.int .i64)):=by
 obtain ⟨X,hX⟩:∃X,X=Em.pD (Em.aG d) s y so0 k:=⟨_,rfl⟩
 have HX:Hid (X=(opJ (Em.aG d) s y so0 >>= xC y) k):=by rw[Hid,hX,Jv]
 rw[<-hX]
 obtain ⟨gy,oy,pc,qs,y0,hAy,hwm⟩:=hy.d
 obtain ⟨kd,hkd⟩:∃kd:Int,kd=(y.drawn.kind:Int):=⟨_,rfl⟩
 have m0:=hwm.1
 rw[<-hkd] at m0
 obtain ⟨vi,q2,hvi⟩:=hs.iy
 obtain ⟨ai,gi,ci,rfl,hmx,hgi,hin⟩:=hvi
 obtain ⟨N,hN⟩:∃N,N=s.inside.length:=⟨_,rfl⟩
 rw[<-hN] at q2 hmx hgi
 have HY:Hid (yX A w gW oW y/\A gW/\w.cell? ⟨gW,oW,none⟩=some (.pointer (some ⟨gy,oy,none⟩))/\A gy/\iV A w gy oy y.drawn pc qs/\vS ns n y):=⟨hy,hAW,y0,hAy,hwm,hyK⟩
 have HI:Hid ((0<N->ai=some ⟨gi,0,none⟩/\A gi)/\(∀j r,s.inside[j]?=some r->∃gr,w.cell? ⟨gi,j,none⟩=some (.pointer (some ⟨gr,0,none⟩))/\eV A d w r gr)/\N=s.inside.length/\∀r∈s.inside,eN ns d r):=⟨hgi,hin,hN,hK.sub⟩
 have HC:Hid (eG E ns P w kb k/\Ro A P w):=⟨h,hR⟩
 have HP:Hid (∀b,P b->b<w.heap.size):=h.2.2
 have hN6:(N:Int)≤1000000:=by have:=hK.il;omega
 obtain ⟨B,hB⟩:∃B,(kd==2)=B:=⟨_,rfl⟩
 have HKD:Hid (B=true↔y.drawn.kind=2):=by rw[Hid,<-hB,beq_iff_eq,hkd];omega
 clear hs hK hAW hy hyK h hR hX hAy hwm hkd hmx hgi hin hN
 go_enter Tryz.func257,Tryz.ntmps257
 go_upto_if 18 with fail
 clear hB
 go_cut [3] (fun s3 wx=>∃(so1:Int) (k1:Kd),s3=.int .i64 so1/\Hid (X=xC y so1 k1/\At E ns P kb w k wx k1))
 case first=>
  cases B with
  | true=>
   have hk2:y.drawn.kind=2:=HKD.out.1 rfl
   have HJ:Hid (X=(Em.uU (Em.aG d) s.inside so0 >>= xC y) k):=by rw[Hid,HX.out];unfold opJ;rw[if_pos hk2]
   clear hk2
   go_wp2_with fail
   clear q2 m0 y0
   go_loopg [3,24] N (fun f sv i wr=>∃(j:Nat) (so:Int) (kj:Kd),f=N-j/\j≤N/\sv=.int .i64 so/\i=.int .i64 (j:Int)/\Hid (X=(Em.uU (Em.aG d) (s.inside.drop j) so >>= xC y) kj/\At E ns P kb w k wr kj))
   case atStart=>exact ⟨0,so0,k,by omega,by omega,rfl,rfl,HJ.out,At.start HC.out.1⟩
   case round=>
    obtain ⟨j,so,kj,rfl,hj,rfl,rfl,hr⟩:=hrel
    obtain ⟨hr1,hr2⟩:=hr.out
    by_cases hlt:j<N
    ·obtain ⟨r,hs⟩:∃r:Rg d,s.inside[j]?=some r:=⟨s.inside[j]'(by rw[<-HI.out.2.2.1];exact hlt),List.getElem?_eq_getElem _⟩
     obtain ⟨gr,c0,hrg⟩:=HI.out.2.1 j r hs
     have kp:=hr2.keep HC.out.2
     have hix:=Vf ai gi N ci j hlt (fun hp=>(HI.out.1 hp).1)
     have c0:=cF kp (HI.out.1 (by omega)).2 c0
     have hov:=Ns hE d (eV.carry d kp _ _ hrg) (HI.out.2.2.2 r (List.mem_of_getElem? hs)) hr2.1 (hr2.ro HC.out.2)
     have a0:Hid (At E ns P kb w k wr kj):=hr2
     have e0:Hid (X=((Em.aG d).over r >>= fun x=>Em.sP so x >>= fun so'=>Em.uU (Em.aG d) (s.inside.drop (j+1)) so' >>= xC y) kj):=by
      have hy:=Dd (k:=kj) (g:=r) (l:=s.inside.drop (j+1)) (so:=so)
      rw[<-dR hs] at hy
      refine hr1.trans ((eC hy).trans ?_)
      simp only[oD]
     clear hr hr1 hr2 hrg kp hs
     go_wp2_with (first
      | (go_at_call 272;refine hov.mono ?_;rintro e w1 (⟨rfl,h0,h1⟩|⟨x1,k1,rfl,h0,h1⟩);(· exact ⟨rfl,At.ran HP.out a0.out e0.out (.inl ⟨rfl,aF h0.out,h1⟩)⟩);have a1:Hid (At E ns P kb w k w1 k1):=a0.out.step HP.out h1.out;have e1:Hid _:=e0.out.trans (bind_some h0.out);clear h0 h1 hov;have hand:=sO so x1 a1.out.1 hE)
      | (go_at_call 260;refine hand.mono ?_;rintro e w2 (⟨rfl,h0,h1⟩|⟨x2,k2,rfl,h0,h1⟩);(· exact ⟨rfl,At.ran HP.out a1.out e1.out (.inl ⟨rfl,aF h0.out,h1⟩)⟩);have a2:Hid (At E ns P kb w k w2 k2):=a1.out.step HP.out h1.out;have e2:Hid _:=e1.out.trans (bind_some h0.out);clear h0 h1 hand))
     go_roundg (N-(j+1))
     case measure=>omega
     case rel=>exact ⟨j+1,x2,k2,rfl,by omega,rfl,by go_num,e2.out,a2.out⟩
    ·obtain rfl:j=N:=by omega
     have HN2:Hid (X=xC y so kj/\At E ns P kb w k wr kj):=⟨hr1.trans (bind_some (by rw[HI.out.2.2.1,List.drop_length];rfl)),hr2⟩
     clear hr hr1 hr2
     go_wp2_with fail
     go_meet
     case rel=>exact ⟨so,kj,rfl,HN2.out⟩
  | false=>
   have hk2:¬y.drawn.kind=2:=fun h=>absurd (HKD.out.2 h) (by simp)
   have HN2:Hid (X=xC y so0 k/\At E ns P kb w k w k):=⟨by rw[HX.out];unfold opJ;rw[if_neg hk2];rfl,At.start HC.out.1⟩
   clear hk2
   go_wp2_with fail
   go_meet
   case rel=>exact ⟨so0,k,rfl,HN2.out⟩
 case rest=>
  obtain ⟨so1,k1,rfl,hc⟩:=hcut
  clear q2 m0 y0
  by_cases hso:so1=-1
  ·have t:(so1 == -1)=true:=by simpa using hso
   have HF:Hid (eY E ns P kb w k X (Value.int .i64) (.returned (.int .i64 (-1))) wc):=At.ends hc.out.2 (by rw[hc.out.1];unfold xC;rw[if_pos hso];rfl)
   clear hc hso
   go_wp2_with fail
   go_ret
   exact HF.out
  ·have t:(so1 == -1)=false:=by simpa using hso
   have kp:=hc.out.2.keep HC.out.2
   have y0:=cF kp HY.out.2.1 HY.out.2.2.1
   have m2:=cF kp HY.out.2.2.2.1 HY.out.2.2.2.2.1.2.2.1
   obtain ⟨B2,hB2⟩:∃B2,pc.isSome=B2:=⟨_,rfl⟩
   have hne:∀w,(binOp BinOp.neq 253 (.pointer pc) (.pointer none)).run Tryz.prog w=.ok (.bool B2) w:=fun w=>by rw[<-hB2];exact Oe pc w
   have HB2:Hid (B2=!Em.Cj y.drawn.cond):=by rw[Hid,<-hB2];exact Fg HY.out.2.2.2.2.1.2.2.2.2.2.2.2.1
   have a0:Hid (At E ns P kb w k wc k1):=hc.out.2
   have e0:Hid (X=(opC y so1 >>= V7 y) k1):=by rw[Hid,hc.out.1];unfold xC;rw[if_neg hso]
   clear hc hso kp hB2
   go_upto_if 44 with fail
   clear t hne
   go_cut [3] (fun s3 wx=>∃(so2:Int) (k2:Kd),s3=.int .i64 so2/\Hid (X=V7 y so2 k2/\At E ns P kb w k wx k2))
   case first=>
    cases B2 with
    | true=>
     have hno:Em.Cj y.drawn.cond=false:=by have:=HB2.out;cases h:Em.Cj y.drawn.cond;rfl;rw[h] at this;exact absurd this (by simp)
     have e1:Hid (X=(Em.eK y.drawn.cond >>= fun x=>Em.sP so1 x >>= V7 y) k1):=by
      rw[Hid,e0.out]
      unfold opC
      rw[hno,if_neg (by simp)]
      simp only[oD]
     have kp:=a0.out.keep HC.out.2
     have hex:=kS (A:=A) (kb:=kb) (ns:=ns) hE y.drawn.cond HY.out.2.2.2.2.2.c (HY.out.2.2.2.2.1.2.2.2.2.2.2.2.1.carry kp) a0.out.1 (a0.out.ro HC.out.2)
     have a1:=a0
     clear hno kp a0 e0
     go_wp2_with (first
      | (go_at_call 234;refine hex.mono ?_;rintro e w2 (⟨rfl,h0,h1⟩|⟨x2,k2,rfl,h0,h1⟩);(· exact ⟨rfl,At.ran HP.out a1.out e1.out (.inl ⟨rfl,aF h0.out,h1⟩)⟩);have a2:Hid (At E ns P kb w k w2 k2):=a1.out.step HP.out h1.out;have e2:Hid _:=e1.out.trans (bind_some h0.out);clear h0 h1 hex;have hand:=sO so1 x2 a2.out.1 hE)
      | (go_at_call 260;refine hand.mono ?_;rintro e w3 (⟨rfl,h0,h1⟩|⟨x3,k3,rfl,h0,h1⟩);(· exact ⟨rfl,At.ran HP.out a2.out e2.out (.inl ⟨rfl,aF h0.out,h1⟩)⟩);have a3:Hid (At E ns P kb w k w3 k3):=a2.out.step HP.out h1.out;have e3:Hid _:=e2.out.trans (bind_some h0.out);clear h0 h1 hand))
     go_meet
     case rel=>exact ⟨x3,k3,rfl,e3.out,a3.out⟩
    | false=>
     have hno:Em.Cj y.drawn.cond=true:=by have:=HB2.out;cases h:Em.Cj y.drawn.cond;rw[h] at this;exact absurd this (by simp);rfl
     have HN2:Hid (X=V7 y so1 k1/\At E ns P kb w k wc k1):=⟨by rw[e0.out];unfold opC;rw[hno,if_pos rfl];rfl,a0.out⟩
     clear hno a0 e0
     go_wp2_with fail
     go_meet
     case rel=>exact ⟨so1,k1,rfl,HN2.out⟩
   case rest=>
    obtain ⟨wq,hwq⟩:∃wq,wq=wc:=⟨wc,rfl⟩
    clear a0 e0 y0 m2 hwq wq
    obtain ⟨so2,k2,rfl,hc⟩:=hcut
    rename_i wd
    have kp:=hc.out.2.keep HC.out.2
    have y2:=cF kp HY.out.2.1 HY.out.1.l
    by_cases hl:y.left=-1
    ·have t:(y.left == -1)=true:=by simpa using hl
     have t':(y.left != -1)=false:=by simp[hl]
     have HF:Hid (eY E ns P kb w k X (Value.int .i64) (.returned (.int .i64 so2)) _):=At.ends hc.out.2 (by rw[hc.out.1];unfold V7;rw[if_pos hl];rfl)
     clear hc hl kp
     go_wp2_with fail
     go_ret
     exact HF.out
    ·have t:(y.left == -1)=false:=by simpa using hl
     have t':(y.left != -1)=true:=by simp[hl]
     have hdr:Below wc.heap.size wc wc.drew:=⟨rfl,rfl,rfl,Nat.le_refl _,fun _ _=>rfl⟩
     have a2:Hid (At E ns P kb w k wc.drew k2):=hc.out.2.below HP.out hdr
     have e2:Hid (X=(Em.add ⟨7,y.left,y.left,so2,0⟩ >>= fun _=>Em.made 13 y.left so2 0) k2):=by rw[Hid,hc.out.1];unfold V7;rw[if_neg hl]
     have hadd:=qE ⟨7,y.left,y.left,so2,0⟩ a2.out.1
     obtain ⟨lf,hlf⟩:∃lf,lf=y.left:=⟨_,rfl⟩
     have HLF:Hid (lf=y.left):=hlf
     rw[<-hlf] at y2 t t' e2 hadd
     clear hc hl kp hdr hlf
     go_upto_region 12 with fail
     go_region_law (go_simp;go_at_call 150;refine hadd.mono ?_;rintro e w3 (⟨rfl,h0,h1⟩|⟨_,k3,rfl,h0,h1⟩);(· exact ⟨rfl,At.ran HP.out a2.out e2.out (.inl ⟨rfl,aF h0.out,h1⟩)⟩);have a3:Hid (At E ns P kb w k w3 k3):=a2.out.step HP.out h1.out;have e3:Hid _:=e2.out.trans (bind_some h0.out);clear h0 h1 hadd)
     all_goals
      have kp:=a3.out.keep HC.out.2
      have z2:=cF kp HY.out.2.1 HY.out.1.l
      rw[<-HLF.out] at z2
      have hmade:=gP 13 lf so2 0 a3.out.1 hE
      clear kp
      go_wp2_with (go_at_call 233;refine hmade.mono ?_;rintro e w4 (⟨rfl,h0,h1⟩|⟨x4,k4,rfl,h0,h1⟩);(· exact ⟨rfl,At.ran HP.out a3.out e3.out (.inl ⟨rfl,h0.out,h1⟩)⟩);have a4:Hid (At E ns P kb w k w4 k4):=a3.out.step HP.out h1.out;have e4:Hid _:=e3.out.trans h0.out;clear h0 h1 hmade)
      go_ret
      exact At.ends a4.out e4.out
end
end Ew
end
section
open Go.RowKit Px
namespace Ew
open Px.Em (Kd Vr)
open Nx (Nt Sp)
section
variable {P A:Nat->Prop}{w:World}{kb E:Nat}{ns:List bB}{k:Kd}
theorem Yc {v:bJ}{r:List bJ}(h:(k.vars v.name).was=-1):Em.dN (v::r) k=Em.dN r k:=by
 show (if (k.vars v.name).was=-1 then Em.dN r else _) k=_
 rw[if_pos h]
theorem Ty {v:bJ}{r:List bJ}(h:(k.vars v.name).was≠-1):Em.dN (v::r) k=(Em.add ⟨2,(k.vars v.name).was,(k.vars v.name).now,0,0⟩ >>= fun _=>Em.dN r) k:=by
 show (if (k.vars v.name).was=-1 then Em.dN r else _) k=_
 rw[if_neg h]
theorem D9 {vs:List bJ}{v:Value}(hV:lY A w vs v) (hnm:∀x∈vs,x.name.length≤maxLen) (hvl:vs.length≤100000) (h:eG E ns P w kb k) (hR:Ro A P w) :
    Calls Tryz.prog 97 #[.pointer (some ⟨kb,0,none⟩),v] w (eY E ns P kb w k (Em.dN vs k) (fun _=>.tuple #[])):=by
 obtain ⟨ad,gd,cap,rfl,hmx,hg,hat⟩:=Xe hV
 obtain ⟨n,hn⟩:∃n,n=vs.length:=⟨_,rfl⟩
 rw[<-hn] at hg hvl ⊢
 obtain ⟨Z,hZ⟩:∃Z,Z=Em.dN vs k:=⟨_,rfl⟩
 have HZ:Hid (Z=Em.dN vs k):=hZ
 rw[<-hZ]
 have HH:Hid (eG E ns P w kb k/\Ro A P w):=⟨h,hR⟩
 have HP:Hid (∀b,P b->b<w.heap.size):=h.2.2
 have HV:Hid ((∀x∈vs,x.name.length≤maxLen)/\n=vs.length):=⟨hnm,hn⟩
 have HG:Hid (0<n->ad=some ⟨gd,0,none⟩/\A gd):=hg
 have HAT:Hid (∀(i:Nat) (a:bJ),vs[i]?=some a->w.cell? ⟨gd,i*3,none⟩=some (.int .i64 (a.kind:Int))/\w.cell? ⟨gd,i*3+1,none⟩=some (sv a.name)/\w.cell? ⟨gd,i*3+2,none⟩=some (.int .i64 a.first)):=hat
 clear hV hnm h hR hn hZ hg hat hmx
 go_enter Tryz.func97,Tryz.ntmps97
 go_upto_region 1 with fail
 go_loopg [9] n (fun f i wr=>∃(j:Nat) (kj:Kd),f=n-j/\j≤n/\i=.int .i64 (j:Int)/\Hid (Z=Em.dN (vs.drop j) kj/\At E ns P kb w k wr kj))
 case atStart=>exact ⟨0,k,by omega,by omega,rfl,HZ.out,At.start HH.out.1⟩
 case round=>
  obtain ⟨j,kj,rfl,hj,rfl,hr⟩:=hrel
  obtain ⟨hr1,hA⟩:=hr.out
  by_cases hlt:j<n
  ·obtain ⟨x,hx⟩:∃x:bJ,vs[j]?=some x:=⟨_,List.getElem?_eq_getElem (by rw[<-HV.out.2];exact hlt)⟩
   have hxm:=List.mem_of_getElem? hx
   have kp:aX A A w wr:=hA.keep HH.out.2
   obtain ⟨c0,c1,c2⟩:=HAT.out j x hx
   have hAg:=(HG.out (by omega)).2
   have c0:=cF kp hAg c0
   have c1:=cF kp hAg c1
   have c2:=cF kp hAg c2
   have hix:=ixV ad gd n cap j hlt (fun hp=>(HG.out hp).1)
   obtain ⟨o,ho⟩:∃o,o=j*3:=⟨_,rfl⟩
   rw[<-ho] at c0 c1 c2 hix
   obtain ⟨S,hS⟩:∃S,Value.string S=sv x.name:=⟨_,rfl⟩
   rw[<-hS] at c1
   obtain ⟨K,hK⟩:∃K:Int,K=(x.kind:Int):=⟨_,rfl⟩
   rw[<-hK] at c0
   obtain ⟨F,hF0⟩:∃F:Int,F=x.first:=⟨_,rfl⟩
   rw[<-hF0] at c2
   obtain ⟨V,hV⟩:∃V,V=wr.alloc (.cells #[.int .i64 K,.string S,.int .i64 F] 160):=⟨_,rfl⟩
   obtain ⟨q,hq⟩:∃q,q=wr.heap.size:=⟨_,rfl⟩
   have hbV:Below wr.heap.size wr V:=by rw[hV];exact aC _ _
   have hkV:V.heap[q]?=some (.cells #[.int .i64 K,.string S,.int .i64 F] 160 (0,0)):=by rw[hV,hq];exact bE wr _
   have hAV:=hA.below HP.out hbV
   have v1:=aA hkV 1 (u:=.string S) rfl
   obtain ⟨c,hc⟩:=hAV.1.1
   have c7:=hc.cell 7 (u:=.map (some c.mv)) rfl
   obtain ⟨vn,vw,vf,hv⟩:∃vn vw vf,kj.vars x.name=⟨vn,vw,vf⟩:=⟨_,_,_,rfl⟩
   have hlk':(Instr.lookup 166 (.map (some c.mv)) (.string S) false).run Tryz.prog V.drew=.ok (.agg #[.int .i64 vn,.int .i64 vw,.int .i64 vf]) V.drew:=by
    have hcd:CM (Up P w V) V.drew kb kj c:=hc.carry fun b hb _=>⟨hb,rfl⟩
    rw[hS,hcd.lookV (HV.out.1 x hxm),hv];rfl
   have hbZ:=aC V (.cells #[.int .i64 0,.int .i64 0,.int .i64 0] 218)
   have hlk2:(Instr.lookup 166 (.map (some c.mv)) (.string S) false).run Tryz.prog (V.alloc (.cells #[.int .i64 0,.int .i64 0,.int .i64 0] 218)).drew=.ok (.agg #[.int .i64 vn,.int .i64 vw,.int .i64 vf]) (V.alloc (.cells #[.int .i64 0,.int .i64 0,.int .i64 0] 218)).drew:=by
    have hcd:CM (Up P w V) (V.alloc (.cells #[.int .i64 0,.int .i64 0,.int .i64 0] 218)).drew kb kj c:=(hc.below hbZ).carry fun b hb _=>⟨hb,rfl⟩
    rw[hS,hcd.lookV (HV.out.1 x hxm),hv];rfl
   have v1Z:=aM hbZ v1
   have c7Z:=aM hbZ c7
   have HJ:Hid (At E ns P kb w k V kj/\Z=Em.dN (vs.drop j) kj/\vs[j]?=some x/\kj.vars x.name=⟨vn,vw,vf⟩):=⟨hAV,hr1,hx,hv⟩
   obtain ⟨W,hW⟩:∃W,W=(V.alloc (.cells #[.int .i64 vn,.int .i64 vw,.int .i64 vf] 218)).drew:=⟨_,rfl⟩
   obtain ⟨q2,hq2⟩:∃q2,q2=V.heap.size:=⟨_,rfl⟩
   have hbW:Below V.heap.size V W:=by rw[hW];exact (aC _ _).drew
   have hkW:W.heap[q2]?=some (.cells #[.int .i64 vn,.int .i64 vw,.int .i64 vf] 218 (0,0)):=by rw[hW,hq2];exact bE V _
   have hAW:Hid (At E ns P kb w k W kj):=hAV.below HP.out hbW
   have x0:=aA hkW 0 (u:=.int .i64 vn) rfl
   have x1:=aA hkW 1 (u:=.int .i64 vw) rfl
   clear hr hr1 hA hAV hx hxm kp hAg ho hS hK hF0 hbV hkV hc hv hbW hkW hbZ
   go_upto_region 3 with fail
   rw[<-hV,<-hq]
   clear hV hq hix c0 c1 c2
   go_region
   all_goals
    rw[<-hW,<-hq2]
    clear hW hq2 c7 hlk' v1 hlk2 v1Z c7Z
    by_cases hw:vw=-1
    ·have t:(vw == -1)=true:=by simpa using hw
     have t':(vw != -1)=false:=by simp[hw]
     have HL:Hid (Z=Em.dN (vs.drop (j+1)) kj):=by
      obtain ⟨_,l2,l3,l4⟩:=HJ.out
      rw[Hid,l2,dR l3,Yc (by rw[l4];exact hw)]
     clear hw
     go_wp2_with fail
     go_roundg (n-(j+1))
     case measure=>omega
     case rel=>exact ⟨j+1,kj,rfl,by omega,by go_num,HL.out,hAW.out⟩
    ·have t:(vw == -1)=false:=by simpa using hw
     have t':(vw != -1)=true:=by simp[hw]
     have HL:Hid (Z=(Em.add ⟨2,vw,vn,0,0⟩ >>= fun _=>Em.dN (vs.drop (j+1))) kj):=by
      obtain ⟨_,l2,l3,l4⟩:=HJ.out
      rw[Hid,l2,dR l3,Ty (by rw[l4];exact hw),l4]
     have hadd:=qE ⟨2,vw,vn,0,0⟩ hAW.out.1
     clear hw
     go_wp2_with (go_at_call 150;refine hadd.mono ?_;rintro e w3 (⟨rfl,h0,h1⟩|⟨_,k3,rfl,h0,h1⟩);(· exact ⟨rfl,At.ran HP.out hAW.out HL.out (.inl ⟨rfl,aF h0.out,h1⟩)⟩);have a3:Hid (At E ns P kb w k w3 k3):=hAW.out.step HP.out h1.out;have e3:Hid _:=HL.out.trans (bind_some h0.out);clear h0 h1 hadd)
     go_roundg (n-(j+1))
     case measure=>omega
     case rel=>exact ⟨j+1,k3,rfl,by omega,by go_num,e3.out,a3.out⟩
  ·have HF:Hid (eY E ns P kb w k Z (fun _=>.tuple #[]) (.returned (.tuple #[])) wr):=by
    refine At.ends (a:=()) hA ?_
    rw[hr1,List.drop_eq_nil_of_le (by rw[<-HV.out.2];omega)]
    rfl
   clear hr hr1 hA
   go_wp2_with fail
   go_end0
   exact HF.out
end
end Ew
end
section
open Go.RowKit Px
namespace Ew
open Px.Em (Kd Vr eL eM jG Rg)
open Nx (Nt Sp)
def Xu (A:Nat->Prop) (w:World) (c:eL×Int) (cs:List Value):Prop:=∃gW oW,cs=[.pointer (some ⟨gW,oW,none⟩),.int .i64 c.2]/\A gW/\yX A w gW oW c.1
theorem Xu.carry {A A':Nat->Prop}{w w':World}(k:aX A A' w w') (c:eL×Int) (cs:List Value) (h:Xu A w c cs):Xu A' w' c cs:=by
 obtain ⟨gW,oW,h1,h2,h3⟩:=h
 exact ⟨gW,oW,h1,(k gW h2 (World.block_lt_of_cell? w _ h3.t)).1,yX.carry k h2 h3⟩
def pQ (A:Nat->Prop) (w:World) (v:Value) (cs:List (eL×Int)):Prop:=∃xs,w.ownsRow 0 333 2 v cs.length xs/\Rows (Xu A w) cs xs
def Xb (E:Nat) (ns:List bB) (P X:Nat->Prop) (kb:Nat) (w:World) (k:Kd) (wr:World) (kj:Kd):Prop:=
 ∃P1,eG E ns P1 wr kb kj/\(∀x,P1 x->Up P w wr x/\¬X x)/\(∀x,X x->x<wr.heap.size)/\bH P w wr/\k.net.places≤kj.net.places
def yH (E:Nat) (ns:List bB) (P A:Nat->Prop) (n kb:Nat) (w:World) (k:Kd) (o:Option ((List (eL×Int)×Int)×Kd)) (e:Ending) (w':World):Prop:=
 (e=Sv/\Hid (o=none)/\Hid (bH P w w'))\/∃cs t k' ac nc cc,e=.returned (.tuple #[.slice ac nc cc,.int .i64 t])/\Hid (o=some ((cs,t),k'))/\Hid (Xb E ns P (fun b=>(Value.slice ac nc cc).ownBlock=some b) kb w k w' k'/\pQ A w' (.slice ac nc cc) cs/\(∀g,(Value.slice ac nc cc).ownBlock=some g->w.heap.size≤g)/\(∀c∈cs,vS ns n c.1)/\nc=cs.length/\cs.length≤1000000)
section
variable {P A:Nat->Prop}{w wr w2:World}{kb E d:Nat}{ns:List bB}{k kj k2:Kd}
theorem Vn:(Tryz.prog.info? 333).map (fun i=>(i.zero,i.size,i.bytes))=some (some (.agg #[.pointer none,.int .i64 0]),2,16):=by kernel_rfl
theorem I5 {s:eM (St d) (Rg d)}{so rest ahead taken:Int}{f:Wy->Bool}{y:eL}{r:List eL}{l:List (eL×Int)}(h:so=-1\/f y.drawn=false):Em.fY (Em.aG d) s so f (y::r) rest ahead taken l k=Em.fY (Em.aG d) s so f r rest ahead taken l k:=by rw[Em.fY,if_pos h]
def chK {s:eM (St d) (Rg d)}(so taken:Int) (f:Wy->Bool) (y:eL) (r:List eL) (l:List (eL×Int)) (rest' ahead':Int):Em.M (List (eL×Int)×Int):=
 if ahead'=rest' then pure (l++[(y,ahead')],so) else (Em.tN taken ahead' >>= fun t=>Em.fY (Em.aG d) s so f r rest' ahead' t (l++[(y,ahead')]))
theorem Eb {s:eM (St d) (Rg d)}{so rest ahead taken:Int}{f:Wy->Bool}{y:eL}{r:List eL}{l:List (eL×Int)}(h:¬(so=-1\/f y.drawn=false)) :
    Em.fY (Em.aG d) s so f (y::r) rest ahead taken l k=(Em.dS rest ahead >>= fun rest'=>Em.pD (Em.aG d) s y rest' >>= fun ahead'=>chK (s:=s) so taken f y r l rest' ahead') k:=by
 rw[Em.fY,if_neg h]
 rfl
theorem aG8 {gy oy:Nat}{y:Wy}{p:Option Addr}{q:Value}(h:iV A w gy oy y p q):Calls Tryz.prog 231 #[.pointer (some ⟨gy,oy,none⟩)] w fun e w'=>e=.returned (.bool ((fun y=>decide (y.kind=1)) y))/\w'=w:=by
 have c0:=h.1
 have c1:=h.2.1
 have hb:((y.kind:Int)==1)=decide (y.kind=1):=by rw[Bool.eq_iff_iff];simp;omega
 have hb':((y.kind:Int) != 1)=!decide (y.kind=1):=by rw[bne,hb]
 obtain ⟨kd,hkd⟩:∃kd:Int,kd=(y.kind:Int):=⟨_,rfl⟩
 rw[<-hkd] at c0 hb hb'
 clear h hkd
 cases hnow:y.now
 all_goals
  rw[hnow] at c1
  clear hnow
  go_enter Tryz.func231,Tryz.ntmps231
  go_wp2_with fail
  go_ret
  exact ⟨rfl,rfl⟩
theorem aG7 {gy oy:Nat}{y:Wy}{p:Option Addr}{q:Value}(h:iV A w gy oy y p q):Calls Tryz.prog 238 #[.pointer (some ⟨gy,oy,none⟩)] w fun e w'=>e=.returned (.bool ((fun y=>!decide (y.kind=1)) y))/\w'=w:=by
 have c0:=h.1
 have c1:=h.2.1
 have hb:((y.kind:Int)==1)=decide (y.kind=1):=by rw[Bool.eq_iff_iff];simp;omega
 have hb':((y.kind:Int) != 1)=!decide (y.kind=1):=by rw[bne,hb]
 obtain ⟨kd,hkd⟩:∃kd:Int,kd=(y.kind:Int):=⟨_,rfl⟩
 rw[<-hkd] at c0 hb hb'
 clear h hkd
 cases hnow:y.now
 all_goals
  rw[hnow] at c1
  clear hnow
  go_enter Tryz.func238,Tryz.ntmps238
  go_wp2_with fail
  go_ret
  exact ⟨rfl,rfl⟩
theorem aG6 {gy oy:Nat}{y:Wy}{p:Option Addr}{q:Value}(h:iV A w gy oy y p q):Calls Tryz.prog 259 #[.pointer (some ⟨gy,oy,none⟩)] w fun e w'=>e=.returned (.bool ((fun y=>y.now&&decide (y.kind=1)) y))/\w'=w:=by
 have c0:=h.1
 have c1:=h.2.1
 have hb:((y.kind:Int)==1)=decide (y.kind=1):=by rw[Bool.eq_iff_iff];simp;omega
 have hb':((y.kind:Int) != 1)=!decide (y.kind=1):=by rw[bne,hb]
 obtain ⟨kd,hkd⟩:∃kd:Int,kd=(y.kind:Int):=⟨_,rfl⟩
 rw[<-hkd] at c0 hb hb'
 clear h hkd
 cases hnow:y.now
 all_goals
  rw[hnow] at c1
  simp only[hnow]
  clear hnow
  go_enter Tryz.func259,Tryz.ntmps259
  go_wp2_with fail
  go_ret
  exact ⟨rfl,rfl⟩
theorem aG5 {gy oy:Nat}{y:Wy}{p:Option Addr}{q:Value}(h:iV A w gy oy y p q):Calls Tryz.prog 262 #[.pointer (some ⟨gy,oy,none⟩)] w fun e w'=>e=.returned (.bool ((fun y=>y.now && !decide (y.kind=1)) y))/\w'=w:=by
 have c0:=h.1
 have c1:=h.2.1
 have hb:((y.kind:Int)==1)=decide (y.kind=1):=by rw[Bool.eq_iff_iff];simp;omega
 have hb':((y.kind:Int) != 1)=!decide (y.kind=1):=by rw[bne,hb]
 obtain ⟨kd,hkd⟩:∃kd:Int,kd=(y.kind:Int):=⟨_,rfl⟩
 rw[<-hkd] at c0 hb hb'
 clear h hkd
 cases hnow:y.now
 all_goals
  rw[hnow] at c1
  simp only[hnow]
  clear hnow
  go_enter Tryz.func262,Tryz.ntmps262
  go_wp2_with fail
  go_ret
  exact ⟨rfl,rfl⟩
theorem pQ.keep {w':World}{v:Value}{cs:List (eL×Int)}(h:pQ A w v cs) (hk:aX A A w w') (ho:∀g,v.ownBlock=some g->w'.heap[g]?=w.heap[g]?):pQ A w' v cs:=by
 obtain ⟨xs,h1,h2⟩:=h
 exact ⟨xs,dK (A:=fun b=>v.ownBlock=some b) (A':=fun _=>True) h1 (fun _ h=>h) (fun b hb _=>⟨trivial,ho b hb⟩),h2.map (Xu.carry hk)⟩
theorem Xb.next {X P1:Nat->Prop}(p2:∀x,P1 x->Up P w wr x/\¬X x) (p3:∀x,X x->x<wr.heap.size) (p4:bH P w wr) (p5:k.net.places≤kj.net.places) (h:At E ns P1 kb wr kj w2 k2):Xb E ns P X kb w k w2 k2:=by
 have hf:bH P w w2:=p4.trans h.2.1 fun b hb hq=>(p2 b hq).1.elim id fun h=>absurd h.1 (by omega)
 refine ⟨_,h.1,fun x hx=>?_,fun x hx=>Nat.lt_of_lt_of_le (p3 x hx) h.2.1.size,hf,Int.le_trans p5 h.2.2⟩
 have:=h.2.1.size
 have:=p4.size
 rcases hx with hx|hx
 ·exact ⟨Up.size h.2.1.size x (p2 x hx).1,(p2 x hx).2⟩
 ·exact ⟨.inr ⟨by omega,hx.2⟩,fun h=>absurd (p3 x h) (by omega)⟩
theorem Wk {P1:Nat->Prop}{n gw oW:Nat}{y:eL}{x2:Int}{v v5:Value}{cs:List (eL×Int)}{xs news:List Value}{ob:Obj}{w5:World}(hR:Ro A P w) (hR1:Ro A P1 wr) (hyw:yX A wr gw oW y) (hAw:A gw) (hyK:vS ns n y) (p2:∀x,P1 x->Up P w wr x/\¬(v.ownBlock=some x)) (p3:∀x,v.ownBlock=some x->x<wr.heap.size) (p4:bH P w wr) (p5:k.net.places≤kj.net.places) (hrow:Rows (Xu A wr) cs xs) (h4:∀g,v.ownBlock=some g->w.heap.size≤g) (h5:∀c∈cs,vS ns n c.1) (a2:At E ns P1 kb wr kj w2 k2)
    (hnews:news=[.pointer (some ⟨gw,oW,none⟩),.int .i64 x2]) (hown:w5.ownsRow 0 333 2 v5 (cs.length+1) (xs++news)) (hg:(w2.alloc ob).grownBy w5 v.ownBlock) (hat:v5.ownBlock=v.ownBlock\/v5.ownBlock=some (w2.alloc ob).heap.size) :
    Xb E ns P (fun b=>v5.ownBlock=some b) kb w k w5 k2/\pQ A w5 v5 (cs++[(y,x2)])/\(∀g,v5.ownBlock=some g->w.heap.size≤g)/\∀c∈cs++[(y,x2)],vS ns n c.1:=by
 have s1:=p4.size
 have s2:=a2.2.1.size
 have s3:(w2.alloc ob).heap.size=w2.heap.size+1:=by simp
 have s4:=hg.size
 have hU:∀x,Up P1 wr w2 x->x<w2.heap.size/\v.ownBlock≠some x:=fun x hx=>by
  refine ⟨a2.1.2.2 x hx,fun h=>?_⟩
  rcases hx with hx|hx
  ·exact (p2 x hx).2 h
  ·exact absurd (p3 x h) (by omega)
 have hA:∀x,A x->v.ownBlock≠some x:=fun x hx h=>absurd (h4 x h) (by have:=(hR x hx).1;omega)
 have kpA:aX A A wr w5:=fun b hb hl=>⟨hb,by rw[hg.block b (by omega) (fun e=>hA b hb e.symm),Below.heap_alloc _ _ _ (by omega),(a2.keep hR1 b hb hl).2]⟩
 have kpU:aX (Up P1 wr w2) (Up P1 wr w2) w2 w5:=fun b hb hl=>⟨hb,by rw[hg.block b (by omega) (fun e=>(hU b hb).2 e.symm),Below.heap_alloc _ _ _ hl]⟩
 have hf2:bH P w w2:=p4.trans a2.2.1 fun b hb hq=>(p2 b hq).1.elim id fun h=>absurd h.1 (by omega)
 refine ⟨⟨Up P1 wr w2,⟨a2.1.1.imp fun _ h=>h.carry kpU,a2.1.2.1,fun b hb=>by have:=(hU b hb).1;omega⟩,fun x hx=>⟨?_,fun h=>?_⟩,fun x hx=>(hown.lt x hx).2,(hf2.alloc ob).grown hg fun b hb=>.inr (h4 b hb),Int.le_trans p5 a2.2.2⟩,⟨_,by rw[List.length_append];exact hown,(hrow.map (Xu.carry kpA)).append (Rows.one ⟨gw,oW,hnews,hAw,yX.carry kpA hAw hyw⟩)⟩,fun g h=>?_,fun c hc=>?_⟩
 ·rcases hx with hx|hx
  ·exact Up.size (by omega) x (p2 x hx).1
  ·exact .inr ⟨by omega,by omega⟩
 ·rcases hat with e|e
  ·exact (hU x hx).2 (e.symm.trans h)
  ·rw[h] at e;injection e with e;have:=(hU x hx).1;omega
 ·rcases hat with e|e
  ·exact h4 g (e.symm.trans h)
  ·rw[h] at e;injection e with e;omega
 ·rcases List.mem_append.1 hc with hc|hc
  ·exact h5 c hc
  ·rw[List.mem_singleton.1 hc];exact hyK
theorem Wl {s:eM (St d) (Rg d)}{so taken:Int}{f:Wy->Bool}{y:eL}{r:List eL}{l:List (eL×Int)}{a b:Int}(h:b=a):chK (s:=s) so taken f y r l a b k=some ((l++[(y,b)],so),k):=by unfold chK;rw[if_pos h];rfl
theorem Zz {s:eM (St d) (Rg d)}{so taken:Int}{f:Wy->Bool}{y:eL}{r:List eL}{l:List (eL×Int)}{a b:Int}(h:¬b=a):chK (s:=s) so taken f y r l a b k=(Em.tN taken b >>= fun t=>Em.fY (Em.aG d) s so f r a b t (l++[(y,b)])) k:=by unfold chK;rw[if_neg h]
end
end Ew
end
end Go.Proofs.YtcdbhoknhnimcaaGreatDoor
