import Derived.Test.YtdeklanmddlgpaaGreatDoorSEi
import Derived.Test.YtdeklanmddlgpaaGreatDoorSEzb
set_option maxRecDepth 100000
set_option maxHeartbeats 16000000
namespace Go.Proofs.YtdeklanmddlgpaaGreatDoor
section
open Go.RowKit Px
namespace Ew
open Px.Em (Kd Vr Bn Bo DM Rg)
open Nx (Nt Sp)
section
variable {P A:Nat->Prop}{w wr w2:World}{kb E d:Nat}{ns:List AW}{k kj k2:Kd}
theorem JR (s:Sp) (h:Bg E ns P w kb k) :
    Calls Tryz.prog 150 #[.pointer (some ⟨kb,0,none⟩),.agg #[.int .i64 s.code,.int .i64 s.dst,.int .i64 s.a,.int .i64 s.b,.int .i64 s.c]] w (B5 E ns P kb w k (Em.add s k) (fun _=>.tuple #[])):=by
 by_cases hcl:4000≤k.net.code.length
 ·exact (Mq s h hcl).mono fun e w' ⟨he,hf⟩=>.inl ⟨he,if_pos hcl,hf⟩
 ·exact (Ql (E:=E) s h (by omega) h.2.1.e (by omega)).mono fun e w' ⟨he,hf⟩=>.inr ⟨(),_,he,if_neg hcl,hf.out.1,hf.out.2,Int.le_refl _⟩
theorem Uo (hE:E<1000000):∀(d:Nat) {P:Nat->Prop}{w:World}{k:Kd}{r:Rg d}{g:Nat},B4 A d w r g->Bp ns d r->Bg E ns P w kb k->Ro A P w->
    Calls Tryz.prog 272 #[.pointer (some ⟨kb,0,none⟩),.pointer (some ⟨g,0,none⟩)] w (B5 E ns P kb w k ((Em.AE d).over r k) (Value.int .i64))
 | 0,_,_,_,_,_,h,_,_,_=>h.elim
 | d+1,_,_,_,_,_,h,hk,hc,hR=>SM (σ:=St d) (ρ:=Rg d) h (Tn.n hk) hc hR hE
def Nm (y:Bn) (so2:Int):Em.M Int:=if y.left=-1 then pure so2 else (Em.add ⟨7,y.left,y.left,so2,0⟩ >>= fun _=>Em.made 13 y.left so2 0)
def ae (y:Bn) (so1:Int):Em.M Int:=if Em.Tk y.drawn.cond then pure so1 else (Em.Bl y.drawn.cond >>= fun x=>Em.Hw so1 x)
def Jx (y:Bn) (so1:Int):Em.M Int:=if so1=-1 then pure (-1) else (ae y so1 >>= Nm y)
def ab {σ ρ:Type}(O:Em.JT σ ρ) (s:Bo σ ρ) (y:Bn) (so0:Int):Em.M Int:=if y.drawn.kind=2 then Em.Iy O s.inside so0 else pure so0
theorem Sm {σ ρ:Type}{O:Em.JT σ ρ}{s:Bo σ ρ}{y:Bn}{so0:Int}:Em.Fj O s y so0=(ab O s y so0 >>= Jx y):=by
 unfold Em.Fj ab Jx ae Nm
 by_cases h:y.drawn.kind=2<;>by_cases h2:Em.Tk y.drawn.cond=true<;>by_cases h3:y.left=-1<;>simp only[h,h2,h3,if_true,if_false,Bool.false_eq_true,pure_bind,FO]
theorem QK {g:Rg d}{l:List (Rg d)}{so:Int}:Em.Iy (Em.AE d) (g::l) so k=((Em.AE d).over g >>= fun x=>Em.Hw so x >>= fun so'=>Em.Iy (Em.AE d) l so') k:=rfl
theorem U7 (u:Option Addr) (w:World):(binOp BinOp.neq 253 (.pointer u) (.pointer none)).run Tryz.prog w=.ok (.bool u.isSome) w:=by cases u<;>kernel_rfl
theorem Q6 {e:Px.E}{u:Option Addr}(h:DO A w e (.pointer u)):u.isSome=!Em.noE e:=by
 cases e with
 | nil=>have h:=h;injection h with h;rw[h];rfl
 | node _ _ _ _ _=>obtain ⟨g,_,_,h,_⟩:=h;injection h with h;rw[h];rfl
theorem QO (hE:E<1000000) {gS o gd od n gW oW:Nat}{s:Bo (St d) (Rg d)}{y:Bn}{so0:Int}(hs:Ii A w (B4 A d w) gS o s gd od) (hK:Ks ns n (Bp ns d) s) (hAW:A gW) (hy:Kp A w gW oW y) (hyK:JS ns n y) (h:Bg E ns P w kb k) (hR:Ro A P w) :
    Calls Tryz.prog 257 #[.pointer (some ⟨kb,0,none⟩),.pointer (some ⟨gS,o,none⟩),.pointer (some ⟨gW,oW,none⟩),.int .i64 so0] w (B5 E ns P kb w k (Em.Fj (Em.AE d) s y so0 k) (Value.int .i64)):=by
 obtain ⟨X,hX⟩:∃X,X=Em.Fj (Em.AE d) s y so0 k:=⟨_,rfl⟩
 have HX:Hid (X=(ab (Em.AE d) s y so0 >>= Jx y) k):=by rw[Hid,hX,Sm]
 rw[<-hX]
 obtain ⟨gy,oy,pc,qs,y0,hAy,hwm⟩:=hy.d
 obtain ⟨kd,hkd⟩:∃kd:Int,kd=(y.drawn.kind:Int):=⟨_,rfl⟩
 have m0:=hwm.1
 rw[<-hkd] at m0
 obtain ⟨vi,q2,hvi⟩:=hs.iy
 obtain ⟨ai,gi,ci,rfl,hmx,hgi,hin⟩:=hvi
 obtain ⟨N,hN⟩:∃N,N=s.inside.length:=⟨_,rfl⟩
 rw[<-hN] at q2 hmx hgi
 have HY:Hid (Kp A w gW oW y/\A gW/\w.cell? ⟨gW,oW,none⟩=some (.pointer (some ⟨gy,oy,none⟩))/\A gy/\C9 A w gy oy y.drawn pc qs/\JS ns n y):=⟨hy,hAW,y0,hAy,hwm,hyK⟩
 have HI:Hid ((0<N->ai=some ⟨gi,0,none⟩/\A gi)/\(∀j r,s.inside[j]?=some r->∃gr,w.cell? ⟨gi,j,none⟩=some (.pointer (some ⟨gr,0,none⟩))/\B4 A d w r gr)/\N=s.inside.length/\∀r∈s.inside,Bp ns d r):=⟨hgi,hin,hN,hK.sub⟩
 have HC:Hid (Bg E ns P w kb k/\Ro A P w):=⟨h,hR⟩
 have HP:Hid (∀b,P b->b<w.heap.size):=h.2.2
 have hN6:(N:Int)≤1000000:=by have:=hK.il;omega
 obtain ⟨B,hB⟩:∃B,(kd==2)=B:=⟨_,rfl⟩
 have HKD:Hid (B=true↔y.drawn.kind=2):=by rw[Hid,<-hB,beq_iff_eq,hkd];omega
 clear hs hK hAW hy hyK h hR hX hAy hwm hkd hmx hgi hin hN
 go_enter Tryz.func257,Tryz.ntmps257
 go_upto_if 18 with fail
 clear hB
 go_cut [3] (fun s3 wx=>∃(so1:Int) (k1:Kd),s3=.int .i64 so1/\Hid (X=Jx y so1 k1/\At E ns P kb w k wx k1))
 case first=>
  cases B with
  | true=>
   have hk2:y.drawn.kind=2:=HKD.out.1 rfl
   have HJ:Hid (X=(Em.Iy (Em.AE d) s.inside so0 >>= Jx y) k):=by rw[Hid,HX.out];unfold ab;rw[if_pos hk2]
   clear hk2
   go_wp2_with fail
   clear q2 m0 y0
   go_loopg [3,24] N (fun f sv i wr=>∃(j:Nat) (so:Int) (kj:Kd),f=N-j/\j≤N/\sv=.int .i64 so/\i=.int .i64 (j:Int)/\Hid (X=(Em.Iy (Em.AE d) (s.inside.drop j) so >>= Jx y) kj/\At E ns P kb w k wr kj))
   case atStart=>exact ⟨0,so0,k,by omega,by omega,rfl,rfl,HJ.out,At.start HC.out.1⟩
   case round=>
    obtain ⟨j,so,kj,rfl,hj,rfl,rfl,hr⟩:=hrel
    obtain ⟨hr1,hr2⟩:=hr.out
    by_cases hlt:j<N
    ·obtain ⟨r,hs⟩:∃r:Rg d,s.inside[j]?=some r:=⟨s.inside[j]'(by rw[<-HI.out.2.2.1];exact hlt),List.getElem?_eq_getElem _⟩
     obtain ⟨gr,c0,hrg⟩:=HI.out.2.1 j r hs
     have kp:=hr2.keep HC.out.2
     have hix:=Xj ai gi N ci j hlt (fun hp=>(HI.out.1 hp).1)
     have c0:=Ak kp (HI.out.1 (by omega)).2 c0
     have hov:=Uo hE d (B4.carry d kp _ _ hrg) (HI.out.2.2.2 r (List.mem_of_getElem? hs)) hr2.1 (hr2.ro HC.out.2)
     have a0:Hid (At E ns P kb w k wr kj):=hr2
     have e0:Hid (X=((Em.AE d).over r >>= fun x=>Em.Hw so x >>= fun so'=>Em.Iy (Em.AE d) (s.inside.drop (j+1)) so' >>= Jx y) kj):=by
      have hy:=QK (k:=kj) (g:=r) (l:=s.inside.drop (j+1)) (so:=so)
      rw[<-BN hs] at hy
      refine hr1.trans ((Be hy).trans ?_)
      simp only[FO]
     clear hr hr1 hr2 hrg kp hs
     go_wp2_with (first
      | (go_at_call 272;refine hov.mono ?_;rintro e w1 (⟨rfl,h0,h1⟩|⟨x1,k1,rfl,h0,h1⟩);(· exact ⟨rfl,At.ran HP.out a0.out e0.out (.inl ⟨rfl,AD h0.out,h1⟩)⟩);have a1:Hid (At E ns P kb w k w1 k1):=a0.out.step HP.out h1.out;have e1:Hid _:=e0.out.trans (bind_some h0.out);clear h0 h1 hov;have hand:=Hv so x1 a1.out.1 hE)
      | (go_at_call 260;refine hand.mono ?_;rintro e w2 (⟨rfl,h0,h1⟩|⟨x2,k2,rfl,h0,h1⟩);(· exact ⟨rfl,At.ran HP.out a1.out e1.out (.inl ⟨rfl,AD h0.out,h1⟩)⟩);have a2:Hid (At E ns P kb w k w2 k2):=a1.out.step HP.out h1.out;have e2:Hid _:=e1.out.trans (bind_some h0.out);clear h0 h1 hand))
     go_roundg (N-(j+1))
     case measure=>omega
     case rel=>exact ⟨j+1,x2,k2,rfl,by omega,rfl,by go_num,e2.out,a2.out⟩
    ·obtain rfl:j=N:=by omega
     have HN2:Hid (X=Jx y so kj/\At E ns P kb w k wr kj):=⟨hr1.trans (bind_some (by rw[HI.out.2.2.1,List.drop_length];rfl)),hr2⟩
     clear hr hr1 hr2
     go_wp2_with fail
     go_meet
     case rel=>exact ⟨so,kj,rfl,HN2.out⟩
  | false=>
   have hk2:¬y.drawn.kind=2:=fun h=>absurd (HKD.out.2 h) (by simp)
   have HN2:Hid (X=Jx y so0 k/\At E ns P kb w k w k):=⟨by rw[HX.out];unfold ab;rw[if_neg hk2];rfl,At.start HC.out.1⟩
   clear hk2
   go_wp2_with fail
   go_meet
   case rel=>exact ⟨so0,k,rfl,HN2.out⟩
 case rest=>
  obtain ⟨so1,k1,rfl,hc⟩:=hcut
  clear q2 m0 y0
  by_cases hso:so1=-1
  ·have t:(so1 == -1)=true:=by simpa using hso
   have HF:Hid (B5 E ns P kb w k X (Value.int .i64) (.returned (.int .i64 (-1))) wc):=At.ends hc.out.2 (by rw[hc.out.1];unfold Jx;rw[if_pos hso];rfl)
   clear hc hso
   go_wp2_with fail
   go_ret
   exact HF.out
  ·have t:(so1 == -1)=false:=by simpa using hso
   have kp:=hc.out.2.keep HC.out.2
   have y0:=Ak kp HY.out.2.1 HY.out.2.2.1
   have m2:=Ak kp HY.out.2.2.2.1 HY.out.2.2.2.2.1.2.2.1
   obtain ⟨B2,hB2⟩:∃B2,pc.isSome=B2:=⟨_,rfl⟩
   have hne:∀w,(binOp BinOp.neq 253 (.pointer pc) (.pointer none)).run Tryz.prog w=.ok (.bool B2) w:=fun w=>by rw[<-hB2];exact U7 pc w
   have HB2:Hid (B2=!Em.noE y.drawn.cond):=by rw[Hid,<-hB2];exact Q6 HY.out.2.2.2.2.1.2.2.2.2.2.2.2.1
   have a0:Hid (At E ns P kb w k wc k1):=hc.out.2
   have e0:Hid (X=(ae y so1 >>= Nm y) k1):=by rw[Hid,hc.out.1];unfold Jx;rw[if_neg hso]
   clear hc hso kp hB2
   go_upto_if 44 with fail
   clear t hne
   go_cut [3] (fun s3 wx=>∃(so2:Int) (k2:Kd),s3=.int .i64 so2/\Hid (X=Nm y so2 k2/\At E ns P kb w k wx k2))
   case first=>
    cases B2 with
    | true=>
     have hno:Em.Tk y.drawn.cond=false:=by have:=HB2.out;cases h:Em.Tk y.drawn.cond;rfl;rw[h] at this;exact absurd this (by simp)
     have e1:Hid (X=(Em.Bl y.drawn.cond >>= fun x=>Em.Hw so1 x >>= Nm y) k1):=by
      rw[Hid,e0.out]
      unfold ae
      rw[hno,if_neg (by simp)]
      simp only[FO]
     have kp:=a0.out.keep HC.out.2
     have hex:=Du (A:=A) (kb:=kb) (ns:=ns) hE y.drawn.cond HY.out.2.2.2.2.2.c (HY.out.2.2.2.2.1.2.2.2.2.2.2.2.1.carry kp) a0.out.1 (a0.out.ro HC.out.2)
     have a1:=a0
     clear hno kp a0 e0
     go_wp2_with (first
      | (go_at_call 234;refine hex.mono ?_;rintro e w2 (⟨rfl,h0,h1⟩|⟨x2,k2,rfl,h0,h1⟩);(· exact ⟨rfl,At.ran HP.out a1.out e1.out (.inl ⟨rfl,AD h0.out,h1⟩)⟩);have a2:Hid (At E ns P kb w k w2 k2):=a1.out.step HP.out h1.out;have e2:Hid _:=e1.out.trans (bind_some h0.out);clear h0 h1 hex;have hand:=Hv so1 x2 a2.out.1 hE)
      | (go_at_call 260;refine hand.mono ?_;rintro e w3 (⟨rfl,h0,h1⟩|⟨x3,k3,rfl,h0,h1⟩);(· exact ⟨rfl,At.ran HP.out a2.out e2.out (.inl ⟨rfl,AD h0.out,h1⟩)⟩);have a3:Hid (At E ns P kb w k w3 k3):=a2.out.step HP.out h1.out;have e3:Hid _:=e2.out.trans (bind_some h0.out);clear h0 h1 hand))
     go_meet
     case rel=>exact ⟨x3,k3,rfl,e3.out,a3.out⟩
    | false=>
     have hno:Em.Tk y.drawn.cond=true:=by have:=HB2.out;cases h:Em.Tk y.drawn.cond;rw[h] at this;exact absurd this (by simp);rfl
     have HN2:Hid (X=Nm y so1 k1/\At E ns P kb w k wc k1):=⟨by rw[e0.out];unfold ae;rw[hno,if_pos rfl];rfl,a0.out⟩
     clear hno a0 e0
     go_wp2_with fail
     go_meet
     case rel=>exact ⟨so1,k1,rfl,HN2.out⟩
   case rest=>
    obtain ⟨wq,hwq⟩:∃wq,wq=wc:=⟨wc,rfl⟩
    clear a0 e0 y0 m2 hwq wq
    obtain ⟨so2,k2,rfl,hc⟩:=hcut
    rename_i wd
    have kp:=hc.out.2.keep HC.out.2
    have y2:=Ak kp HY.out.2.1 HY.out.1.l
    by_cases hl:y.left=-1
    ·have t:(y.left == -1)=true:=by simpa using hl
     have t':(y.left != -1)=false:=by simp[hl]
     have HF:Hid (B5 E ns P kb w k X (Value.int .i64) (.returned (.int .i64 so2)) _):=At.ends hc.out.2 (by rw[hc.out.1];unfold Nm;rw[if_pos hl];rfl)
     clear hc hl kp
     go_wp2_with fail
     go_ret
     exact HF.out
    ·have t:(y.left == -1)=false:=by simpa using hl
     have t':(y.left != -1)=true:=by simp[hl]
     have hdr:Below wc.heap.size wc wc.drew:=⟨rfl,rfl,rfl,Nat.le_refl _,fun _ _=>rfl⟩
     have a2:Hid (At E ns P kb w k wc.drew k2):=hc.out.2.below HP.out hdr
     have e2:Hid (X=(Em.add ⟨7,y.left,y.left,so2,0⟩ >>= fun _=>Em.made 13 y.left so2 0) k2):=by rw[Hid,hc.out.1];unfold Nm;rw[if_neg hl]
     have hadd:=JR ⟨7,y.left,y.left,so2,0⟩ a2.out.1
     obtain ⟨lf,hlf⟩:∃lf,lf=y.left:=⟨_,rfl⟩
     have HLF:Hid (lf=y.left):=hlf
     rw[<-hlf] at y2 t t' e2 hadd
     clear hc hl kp hdr hlf
     go_upto_region 12 with fail
     go_region_law (go_simp;go_at_call 150;refine hadd.mono ?_;rintro e w3 (⟨rfl,h0,h1⟩|⟨_,k3,rfl,h0,h1⟩);(· exact ⟨rfl,At.ran HP.out a2.out e2.out (.inl ⟨rfl,AD h0.out,h1⟩)⟩);have a3:Hid (At E ns P kb w k w3 k3):=a2.out.step HP.out h1.out;have e3:Hid _:=e2.out.trans (bind_some h0.out);clear h0 h1 hadd)
     all_goals
      have kp:=a3.out.keep HC.out.2
      have z2:=Ak kp HY.out.2.1 HY.out.1.l
      rw[<-HLF.out] at z2
      have hmade:=C0 13 lf so2 0 a3.out.1 hE
      clear kp
      go_wp2_with (go_at_call 233;refine hmade.mono ?_;rintro e w4 (⟨rfl,h0,h1⟩|⟨x4,k4,rfl,h0,h1⟩);(· exact ⟨rfl,At.ran HP.out a3.out e3.out (.inl ⟨rfl,h0.out,h1⟩)⟩);have a4:Hid (At E ns P kb w k w4 k4):=a3.out.step HP.out h1.out;have e4:Hid _:=e3.out.trans h0.out;clear h0 h1 hmade)
      go_ret
      exact At.ends a4.out e4.out
end
end Ew
end
section
open Go.RowKit Px
namespace Ew
open Px.Em (Kd Vr)
open Nx (Nt Sp)
section
variable {P A:Nat->Prop}{w:World}{kb E:Nat}{ns:List AW}{k:Kd}
theorem Yw {v:Ac}{r:List Ac}(h:(k.vars v.name).was=-1):Em.BI (v::r) k=Em.BI r k:=by
 show (if (k.vars v.name).was=-1 then Em.BI r else _) k=_
 rw[if_pos h]
theorem XE {v:Ac}{r:List Ac}(h:(k.vars v.name).was≠-1):Em.BI (v::r) k=(Em.add ⟨2,(k.vars v.name).was,(k.vars v.name).now,0,0⟩ >>= fun _=>Em.BI r) k:=by
 show (if (k.vars v.name).was=-1 then Em.BI r else _) k=_
 rw[if_neg h]
theorem MD {vs:List Ac}{v:Value}(hV:EL A w vs v) (hnm:∀x∈vs,x.name.length≤maxLen) (hvl:vs.length≤100000) (h:Bg E ns P w kb k) (hR:Ro A P w) :
    Calls Tryz.prog 97 #[.pointer (some ⟨kb,0,none⟩),v] w (B5 E ns P kb w k (Em.BI vs k) (fun _=>.tuple #[])):=by
 obtain ⟨ad,gd,cap,rfl,hmx,hg,hat⟩:=YU hV
 obtain ⟨n,hn⟩:∃n,n=vs.length:=⟨_,rfl⟩
 rw[<-hn] at hg hvl ⊢
 obtain ⟨Z,hZ⟩:∃Z,Z=Em.BI vs k:=⟨_,rfl⟩
 have HZ:Hid (Z=Em.BI vs k):=hZ
 rw[<-hZ]
 have HH:Hid (Bg E ns P w kb k/\Ro A P w):=⟨h,hR⟩
 have HP:Hid (∀b,P b->b<w.heap.size):=h.2.2
 have HV:Hid ((∀x∈vs,x.name.length≤maxLen)/\n=vs.length):=⟨hnm,hn⟩
 have HG:Hid (0<n->ad=some ⟨gd,0,none⟩/\A gd):=hg
 have HAT:Hid (∀(i:Nat) (a:Ac),vs[i]?=some a->w.cell? ⟨gd,i*3,none⟩=some (.int .i64 (a.kind:Int))/\w.cell? ⟨gd,i*3+1,none⟩=some (sv a.name)/\w.cell? ⟨gd,i*3+2,none⟩=some (.int .i64 a.first)):=hat
 clear hV hnm h hR hn hZ hg hat hmx
 go_enter Tryz.func97,Tryz.ntmps97
 go_upto_region 1 with fail
 go_loopg [9] n (fun f i wr=>∃(j:Nat) (kj:Kd),f=n-j/\j≤n/\i=.int .i64 (j:Int)/\Hid (Z=Em.BI (vs.drop j) kj/\At E ns P kb w k wr kj))
 case atStart=>exact ⟨0,k,by omega,by omega,rfl,HZ.out,At.start HH.out.1⟩
 case round=>
  obtain ⟨j,kj,rfl,hj,rfl,hr⟩:=hrel
  obtain ⟨hr1,hA⟩:=hr.out
  by_cases hlt:j<n
  ·obtain ⟨x,hx⟩:∃x:Ac,vs[j]?=some x:=⟨_,List.getElem?_eq_getElem (by rw[<-HV.out.2];exact hlt)⟩
   have hxm:=List.mem_of_getElem? hx
   have kp:AY A A w wr:=hA.keep HH.out.2
   obtain ⟨c0,c1,c2⟩:=HAT.out j x hx
   have hAg:=(HG.out (by omega)).2
   have c0:=Ak kp hAg c0
   have c1:=Ak kp hAg c1
   have c2:=Ak kp hAg c2
   have hix:=bE ad gd n cap j hlt (fun hp=>(HG.out hp).1)
   obtain ⟨o,ho⟩:∃o,o=j*3:=⟨_,rfl⟩
   rw[<-ho] at c0 c1 c2 hix
   obtain ⟨S,hS⟩:∃S,Value.string S=sv x.name:=⟨_,rfl⟩
   rw[<-hS] at c1
   obtain ⟨K,hK⟩:∃K:Int,K=(x.kind:Int):=⟨_,rfl⟩
   rw[<-hK] at c0
   obtain ⟨F,hF0⟩:∃F:Int,F=x.first:=⟨_,rfl⟩
   rw[<-hF0] at c2
   obtain ⟨V,hV⟩:∃V,V=wr.alloc (.cells #[.int .i64 K,.string S,.int .i64 F] 160):=⟨_,rfl⟩
   obtain ⟨q,hq⟩:∃q,q=wr.heap.size:=⟨_,rfl⟩
   have hbV:Below wr.heap.size wr V:=by rw[hV];exact AC _ _
   have hkV:V.heap[q]?=some (.cells #[.int .i64 K,.string S,.int .i64 F] 160 (0,0)):=by rw[hV,hq];exact Aa wr _
   have hAV:=hA.below HP.out hbV
   have v1:=AA hkV 1 (u:=.string S) rfl
   obtain ⟨c,hc⟩:=hAV.1.1
   have c7:=hc.cell 7 (u:=.map (some c.mv)) rfl
   obtain ⟨vn,vw,vf,hv⟩:∃vn vw vf,kj.vars x.name=⟨vn,vw,vf⟩:=⟨_,_,_,rfl⟩
   have hlk':(Instr.lookup 166 (.map (some c.mv)) (.string S) false).run Tryz.prog V.drew=.ok (.agg #[.int .i64 vn,.int .i64 vw,.int .i64 vf]) V.drew:=by
    have hcd:CM (Up P w V) V.drew kb kj c:=hc.carry fun b hb _=>⟨hb,rfl⟩
    rw[hS,hcd.lookV (HV.out.1 x hxm),hv];rfl
   have hbZ:=AC V (.cells #[.int .i64 0,.int .i64 0,.int .i64 0] 218)
   have hlk2:(Instr.lookup 166 (.map (some c.mv)) (.string S) false).run Tryz.prog (V.alloc (.cells #[.int .i64 0,.int .i64 0,.int .i64 0] 218)).drew=.ok (.agg #[.int .i64 vn,.int .i64 vw,.int .i64 vf]) (V.alloc (.cells #[.int .i64 0,.int .i64 0,.int .i64 0] 218)).drew:=by
    have hcd:CM (Up P w V) (V.alloc (.cells #[.int .i64 0,.int .i64 0,.int .i64 0] 218)).drew kb kj c:=(hc.below hbZ).carry fun b hb _=>⟨hb,rfl⟩
    rw[hS,hcd.lookV (HV.out.1 x hxm),hv];rfl
   have v1Z:=AO hbZ v1
   have c7Z:=AO hbZ c7
   have HJ:Hid (At E ns P kb w k V kj/\Z=Em.BI (vs.drop j) kj/\vs[j]?=some x/\kj.vars x.name=⟨vn,vw,vf⟩):=⟨hAV,hr1,hx,hv⟩
   obtain ⟨W,hW⟩:∃W,W=(V.alloc (.cells #[.int .i64 vn,.int .i64 vw,.int .i64 vf] 218)).drew:=⟨_,rfl⟩
   obtain ⟨q2,hq2⟩:∃q2,q2=V.heap.size:=⟨_,rfl⟩
   have hbW:Below V.heap.size V W:=by rw[hW];exact (AC _ _).drew
   have hkW:W.heap[q2]?=some (.cells #[.int .i64 vn,.int .i64 vw,.int .i64 vf] 218 (0,0)):=by rw[hW,hq2];exact Aa V _
   have hAW:Hid (At E ns P kb w k W kj):=hAV.below HP.out hbW
   have x0:=AA hkW 0 (u:=.int .i64 vn) rfl
   have x1:=AA hkW 1 (u:=.int .i64 vw) rfl
   clear hr hr1 hA hAV hx hxm kp hAg ho hS hK hF0 hbV hkV hc hv hbW hkW hbZ
   go_upto_region 3 with fail
   rw[<-hV,<-hq]
   clear hV hq hix c0 c1 c2
   go_region
   all_goals
    rw[<-hW,<-hq2]
    clear hW hq2 c7 hlk' v1 hlk2 v1Z c7Z
    by_cases hw:vw=-1
    ·have t:(vw == -1)=true:=by simpa using hw
     have t':(vw != -1)=false:=by simp[hw]
     have HL:Hid (Z=Em.BI (vs.drop (j+1)) kj):=by
      obtain ⟨_,l2,l3,l4⟩:=HJ.out
      rw[Hid,l2,BN l3,Yw (by rw[l4];exact hw)]
     clear hw
     go_wp2_with fail
     go_roundg (n-(j+1))
     case measure=>omega
     case rel=>exact ⟨j+1,kj,rfl,by omega,by go_num,HL.out,hAW.out⟩
    ·have t:(vw == -1)=false:=by simpa using hw
     have t':(vw != -1)=true:=by simp[hw]
     have HL:Hid (Z=(Em.add ⟨2,vw,vn,0,0⟩ >>= fun _=>Em.BI (vs.drop (j+1))) kj):=by
      obtain ⟨_,l2,l3,l4⟩:=HJ.out
      rw[Hid,l2,BN l3,XE (by rw[l4];exact hw),l4]
     have hadd:=JR ⟨2,vw,vn,0,0⟩ hAW.out.1
     clear hw
     go_wp2_with (go_at_call 150;refine hadd.mono ?_;rintro e w3 (⟨rfl,h0,h1⟩|⟨_,k3,rfl,h0,h1⟩);(· exact ⟨rfl,At.ran HP.out hAW.out HL.out (.inl ⟨rfl,AD h0.out,h1⟩)⟩);have a3:Hid (At E ns P kb w k w3 k3):=hAW.out.step HP.out h1.out;have e3:Hid _:=HL.out.trans (bind_some h0.out);clear h0 h1 hadd)
     go_roundg (n-(j+1))
     case measure=>omega
     case rel=>exact ⟨j+1,k3,rfl,by omega,by go_num,e3.out,a3.out⟩
  ·have HF:Hid (B5 E ns P kb w k Z (fun _=>.tuple #[]) (.returned (.tuple #[])) wr):=by
    refine At.ends (a:=()) hA ?_
    rw[hr1,List.drop_eq_nil_of_le (by rw[<-HV.out.2];omega)]
    rfl
   clear hr hr1 hA
   go_wp2_with fail
   go_end0
   exact HF.out
end
end Ew
end
section
open Go.RowKit Px
namespace Ew
open Px.Em (Kd Vr Bn Bo DM Rg)
open Nx (Nt Sp)
def Yj (A:Nat->Prop) (w:World) (c:Bn×Int) (cs:List Value):Prop:=∃gW oW,cs=[.pointer (some ⟨gW,oW,none⟩),.int .i64 c.2]/\A gW/\Kp A w gW oW c.1
theorem Yj.carry {A A':Nat->Prop}{w w':World}(k:AY A A' w w') (c:Bn×Int) (cs:List Value) (h:Yj A w c cs):Yj A' w' c cs:=by
 obtain ⟨gW,oW,h1,h2,h3⟩:=h
 exact ⟨gW,oW,h1,(k gW h2 (World.block_lt_of_cell? w _ h3.t)).1,Kp.carry k h2 h3⟩
def Fw (A:Nat->Prop) (w:World) (v:Value) (cs:List (Bn×Int)):Prop:=∃xs,w.ownsRow 0 333 2 v cs.length xs/\Rows (Yj A w) cs xs
def YR (E:Nat) (ns:List AW) (P X:Nat->Prop) (kb:Nat) (w:World) (k:Kd) (wr:World) (kj:Kd):Prop:=
 ∃P1,Bg E ns P1 wr kb kj/\(∀x,P1 x->Up P w wr x/\¬X x)/\(∀x,X x->x<wr.heap.size)/\Ap P w wr/\k.net.places≤kj.net.places
def KX (E:Nat) (ns:List AW) (P A:Nat->Prop) (n kb:Nat) (w:World) (k:Kd) (o:Option ((List (Bn×Int)×Int)×Kd)) (e:Ending) (w':World):Prop:=
 (e=WZ/\Hid (o=none)/\Hid (Ap P w w'))\/∃cs t k' ac nc cc,e=.returned (.tuple #[.slice ac nc cc,.int .i64 t])/\Hid (o=some ((cs,t),k'))/\Hid (YR E ns P (fun b=>(Value.slice ac nc cc).ownBlock=some b) kb w k w' k'/\Fw A w' (.slice ac nc cc) cs/\(∀g,(Value.slice ac nc cc).ownBlock=some g->w.heap.size≤g)/\(∀c∈cs,JS ns n c.1)/\nc=cs.length/\cs.length≤1000000)
section
variable {P A:Nat->Prop}{w wr w2:World}{kb E d:Nat}{ns:List AW}{k kj k2:Kd}
theorem Xq:(Tryz.prog.info? 333).map (fun i=>(i.zero,i.size,i.bytes))=some (some (.agg #[.pointer none,.int .i64 0]),2,16):=by kernel_rfl
theorem Mf {s:Bo (St d) (Rg d)}{so rest ahead taken:Int}{f:Wy->Bool}{y:Bn}{r:List Bn}{l:List (Bn×Int)}(h:so=-1\/f y.drawn=false):Em.CT (Em.AE d) s so f (y::r) rest ahead taken l k=Em.CT (Em.AE d) s so f r rest ahead taken l k:=by rw[Em.CT,if_pos h]
def Z8 {s:Bo (St d) (Rg d)}(so taken:Int) (f:Wy->Bool) (y:Bn) (r:List Bn) (l:List (Bn×Int)) (rest' ahead':Int):Em.M (List (Bn×Int)×Int):=
 if ahead'=rest' then pure (l++[(y,ahead')],so) else (Em.IR taken ahead' >>= fun t=>Em.CT (Em.AE d) s so f r rest' ahead' t (l++[(y,ahead')]))
theorem QY {s:Bo (St d) (Rg d)}{so rest ahead taken:Int}{f:Wy->Bool}{y:Bn}{r:List Bn}{l:List (Bn×Int)}(h:¬(so=-1\/f y.drawn=false)) :
    Em.CT (Em.AE d) s so f (y::r) rest ahead taken l k=(Em.BO rest ahead >>= fun rest'=>Em.Fj (Em.AE d) s y rest' >>= fun ahead'=>Z8 (s:=s) so taken f y r l rest' ahead') k:=by
 rw[Em.CT,if_neg h]
 rfl
theorem bV {gy oy:Nat}{y:Wy}{p:Option Addr}{q:Value}(h:C9 A w gy oy y p q):Calls Tryz.prog 231 #[.pointer (some ⟨gy,oy,none⟩)] w fun e w'=>e=.returned (.bool ((fun y=>decide (y.kind=1)) y))/\w'=w:=by
 have c0:=h.1
 have c1:=h.2.1
 have hb:((y.kind:Int)==1)=decide (y.kind=1):=by rw[Bool.eq_iff_iff];simp;omega
 have hb':((y.kind:Int) != 1)=!decide (y.kind=1):=by rw[bne,hb]
 obtain ⟨kd,hkd⟩:∃kd:Int,kd=(y.kind:Int):=⟨_,rfl⟩
 rw[<-hkd] at c0 hb hb'
 clear h hkd
 cases hnow:y.now
 all_goals
  rw[hnow] at c1
  clear hnow
  go_enter Tryz.func231,Tryz.ntmps231
  go_wp2_with fail
  go_ret
  exact ⟨rfl,rfl⟩
theorem bU {gy oy:Nat}{y:Wy}{p:Option Addr}{q:Value}(h:C9 A w gy oy y p q):Calls Tryz.prog 238 #[.pointer (some ⟨gy,oy,none⟩)] w fun e w'=>e=.returned (.bool ((fun y=>!decide (y.kind=1)) y))/\w'=w:=by
 have c0:=h.1
 have c1:=h.2.1
 have hb:((y.kind:Int)==1)=decide (y.kind=1):=by rw[Bool.eq_iff_iff];simp;omega
 have hb':((y.kind:Int) != 1)=!decide (y.kind=1):=by rw[bne,hb]
 obtain ⟨kd,hkd⟩:∃kd:Int,kd=(y.kind:Int):=⟨_,rfl⟩
 rw[<-hkd] at c0 hb hb'
 clear h hkd
 cases hnow:y.now
 all_goals
  rw[hnow] at c1
  clear hnow
  go_enter Tryz.func238,Tryz.ntmps238
  go_wp2_with fail
  go_ret
  exact ⟨rfl,rfl⟩
theorem bT {gy oy:Nat}{y:Wy}{p:Option Addr}{q:Value}(h:C9 A w gy oy y p q):Calls Tryz.prog 259 #[.pointer (some ⟨gy,oy,none⟩)] w fun e w'=>e=.returned (.bool ((fun y=>y.now&&decide (y.kind=1)) y))/\w'=w:=by
 have c0:=h.1
 have c1:=h.2.1
 have hb:((y.kind:Int)==1)=decide (y.kind=1):=by rw[Bool.eq_iff_iff];simp;omega
 have hb':((y.kind:Int) != 1)=!decide (y.kind=1):=by rw[bne,hb]
 obtain ⟨kd,hkd⟩:∃kd:Int,kd=(y.kind:Int):=⟨_,rfl⟩
 rw[<-hkd] at c0 hb hb'
 clear h hkd
 cases hnow:y.now
 all_goals
  rw[hnow] at c1
  simp only[hnow]
  clear hnow
  go_enter Tryz.func259,Tryz.ntmps259
  go_wp2_with fail
  go_ret
  exact ⟨rfl,rfl⟩
theorem bS {gy oy:Nat}{y:Wy}{p:Option Addr}{q:Value}(h:C9 A w gy oy y p q):Calls Tryz.prog 262 #[.pointer (some ⟨gy,oy,none⟩)] w fun e w'=>e=.returned (.bool ((fun y=>y.now && !decide (y.kind=1)) y))/\w'=w:=by
 have c0:=h.1
 have c1:=h.2.1
 have hb:((y.kind:Int)==1)=decide (y.kind=1):=by rw[Bool.eq_iff_iff];simp;omega
 have hb':((y.kind:Int) != 1)=!decide (y.kind=1):=by rw[bne,hb]
 obtain ⟨kd,hkd⟩:∃kd:Int,kd=(y.kind:Int):=⟨_,rfl⟩
 rw[<-hkd] at c0 hb hb'
 clear h hkd
 cases hnow:y.now
 all_goals
  rw[hnow] at c1
  simp only[hnow]
  clear hnow
  go_enter Tryz.func262,Tryz.ntmps262
  go_wp2_with fail
  go_ret
  exact ⟨rfl,rfl⟩
theorem Fw.keep {w':World}{v:Value}{cs:List (Bn×Int)}(h:Fw A w v cs) (hk:AY A A w w') (ho:∀g,v.ownBlock=some g->w'.heap[g]?=w.heap[g]?):Fw A w' v cs:=by
 obtain ⟨xs,h1,h2⟩:=h
 exact ⟨xs,CA (A:=fun b=>v.ownBlock=some b) (A':=fun _=>True) h1 (fun _ h=>h) (fun b hb _=>⟨trivial,ho b hb⟩),h2.map (Yj.carry hk)⟩
theorem YR.next {X P1:Nat->Prop}(p2:∀x,P1 x->Up P w wr x/\¬X x) (p3:∀x,X x->x<wr.heap.size) (p4:Ap P w wr) (p5:k.net.places≤kj.net.places) (h:At E ns P1 kb wr kj w2 k2):YR E ns P X kb w k w2 k2:=by
 have hf:Ap P w w2:=p4.trans h.2.1 fun b hb hq=>(p2 b hq).1.elim id fun h=>absurd h.1 (by omega)
 refine ⟨_,h.1,fun x hx=>?_,fun x hx=>Nat.lt_of_lt_of_le (p3 x hx) h.2.1.size,hf,Int.le_trans p5 h.2.2⟩
 have:=h.2.1.size
 have:=p4.size
 rcases hx with hx|hx
 ·exact ⟨Up.size h.2.1.size x (p2 x hx).1,(p2 x hx).2⟩
 ·exact ⟨.inr ⟨by omega,hx.2⟩,fun h=>absurd (p3 x h) (by omega)⟩
theorem YB {P1:Nat->Prop}{n gw oW:Nat}{y:Bn}{x2:Int}{v v5:Value}{cs:List (Bn×Int)}{xs news:List Value}{ob:Obj}{w5:World}(hR:Ro A P w) (hR1:Ro A P1 wr) (hyw:Kp A wr gw oW y) (hAw:A gw) (hyK:JS ns n y) (p2:∀x,P1 x->Up P w wr x/\¬(v.ownBlock=some x)) (p3:∀x,v.ownBlock=some x->x<wr.heap.size) (p4:Ap P w wr) (p5:k.net.places≤kj.net.places) (hrow:Rows (Yj A wr) cs xs) (h4:∀g,v.ownBlock=some g->w.heap.size≤g) (h5:∀c∈cs,JS ns n c.1) (a2:At E ns P1 kb wr kj w2 k2)
    (hnews:news=[.pointer (some ⟨gw,oW,none⟩),.int .i64 x2]) (hown:w5.ownsRow 0 333 2 v5 (cs.length+1) (xs++news)) (hg:(w2.alloc ob).grownBy w5 v.ownBlock) (hat:v5.ownBlock=v.ownBlock\/v5.ownBlock=some (w2.alloc ob).heap.size) :
    YR E ns P (fun b=>v5.ownBlock=some b) kb w k w5 k2/\Fw A w5 v5 (cs++[(y,x2)])/\(∀g,v5.ownBlock=some g->w.heap.size≤g)/\∀c∈cs++[(y,x2)],JS ns n c.1:=by
 have s1:=p4.size
 have s2:=a2.2.1.size
 have s3:(w2.alloc ob).heap.size=w2.heap.size+1:=by simp
 have s4:=hg.size
 have hU:∀x,Up P1 wr w2 x->x<w2.heap.size/\v.ownBlock≠some x:=fun x hx=>by
  refine ⟨a2.1.2.2 x hx,fun h=>?_⟩
  rcases hx with hx|hx
  ·exact (p2 x hx).2 h
  ·exact absurd (p3 x h) (by omega)
 have hA:∀x,A x->v.ownBlock≠some x:=fun x hx h=>absurd (h4 x h) (by have:=(hR x hx).1;omega)
 have kpA:AY A A wr w5:=fun b hb hl=>⟨hb,by rw[hg.block b (by omega) (fun e=>hA b hb e.symm),Below.heap_alloc _ _ _ (by omega),(a2.keep hR1 b hb hl).2]⟩
 have kpU:AY (Up P1 wr w2) (Up P1 wr w2) w2 w5:=fun b hb hl=>⟨hb,by rw[hg.block b (by omega) (fun e=>(hU b hb).2 e.symm),Below.heap_alloc _ _ _ hl]⟩
 have hf2:Ap P w w2:=p4.trans a2.2.1 fun b hb hq=>(p2 b hq).1.elim id fun h=>absurd h.1 (by omega)
 refine ⟨⟨Up P1 wr w2,⟨a2.1.1.imp fun _ h=>h.carry kpU,a2.1.2.1,fun b hb=>by have:=(hU b hb).1;omega⟩,fun x hx=>⟨?_,fun h=>?_⟩,fun x hx=>(hown.lt x hx).2,(hf2.alloc ob).grown hg fun b hb=>.inr (h4 b hb),Int.le_trans p5 a2.2.2⟩,⟨_,by rw[List.length_append];exact hown,(hrow.map (Yj.carry kpA)).append (Rows.one ⟨gw,oW,hnews,hAw,Kp.carry kpA hAw hyw⟩)⟩,fun g h=>?_,fun c hc=>?_⟩
 ·rcases hx with hx|hx
  ·exact Up.size (by omega) x (p2 x hx).1
  ·exact .inr ⟨by omega,by omega⟩
 ·rcases hat with e|e
  ·exact (hU x hx).2 (e.symm.trans h)
  ·rw[h] at e;injection e with e;have:=(hU x hx).1;omega
 ·rcases hat with e|e
  ·exact h4 g (e.symm.trans h)
  ·rw[h] at e;injection e with e;omega
 ·rcases List.mem_append.1 hc with hc|hc
  ·exact h5 c hc
  ·rw[List.mem_singleton.1 hc];exact hyK
theorem YC {s:Bo (St d) (Rg d)}{so taken:Int}{f:Wy->Bool}{y:Bn}{r:List Bn}{l:List (Bn×Int)}{a b:Int}(h:b=a):Z8 (s:=s) so taken f y r l a b k=some ((l++[(y,b)],so),k):=by unfold Z8;rw[if_pos h];rfl
theorem Zv {s:Bo (St d) (Rg d)}{so taken:Int}{f:Wy->Bool}{y:Bn}{r:List Bn}{l:List (Bn×Int)}{a b:Int}(h:¬b=a):Z8 (s:=s) so taken f y r l a b k=(Em.IR taken b >>= fun t=>Em.CT (Em.AE d) s so f r a b t (l++[(y,b)])) k:=by unfold Z8;rw[if_neg h]
end
end Ew
end
end Go.Proofs.YtdeklanmddlgpaaGreatDoor
