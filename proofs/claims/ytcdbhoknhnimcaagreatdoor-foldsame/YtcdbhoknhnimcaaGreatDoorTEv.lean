import Derived.Test.YtcdbhoknhnimcaaGreatDoorTEu
set_option maxRecDepth 100000
set_option maxHeartbeats 16000000
namespace Go.Proofs.YtcdbhoknhnimcaaGreatDoor
section
open Go.RowKit Px
namespace Ew
open Px.Em (Kd Vr eL eM jG Rg cR)
open Nx (Nt Sp)
section
variable {P T X P1 T1 A:Nat->Prop}{w wr w2:World}{kb b E c d:Nat}{ns:List bB}{k kj k2:Kd}{t:cR}
theorem Qb (hE:E<1000000) (ih:Ll A kb E ns d) {gS o gd od n:Nat}{s:eM (St d) (Rg d)}{so:Int}(hs:uG A w (eV A d w) gS o s gd od) (hK:zA ns n (eN ns d) s) (h:eG E ns P w kb k) (hI:vJ T w b t c) (hd:∀x,P x->¬T x) (hR:Ro A (fun x=>P x\/T x) w) (hn:t.length=n) (hc:c≤6000000000000) :
    Calls Tryz.prog 203 #[.pointer (some ⟨kb,0,none⟩),.pointer (some ⟨gS,o,none⟩),.int .i64 so,.slice (some ⟨b,0,none⟩) n n] w (dC E ns P T kb b w k (c+1000000+1000000) (Em.eO (Em.aG d) s so t k)):=by
 obtain ⟨Z,hZ⟩:∃Z,Z=Em.eO (Em.aG d) s so t k:=⟨_,rfl⟩
 have e1:Hid (Z=(Em.choose (Em.aG d) s so fA >>= fun c1=>Em.dS so c1.2 >>= fun on0=>Xk s c1 t on0) k):=by rw[Hid,hZ,Fz]
 rw[<-hZ]
 have HH:Hid (uG A w (eV A d w) gS o s gd od/\zA ns n (eN ns d) s/\Ro A (fun x=>P x\/T x) w/\t.length=n/\Ll A kb E ns d):=⟨hs,hK,hR,hn,ih⟩
 have S1:Hid (Two E ns P T (fun _=>False) kb b w k P T w k t c):=Two.start h hI hd
 have hch:Calls Tryz.prog 230 _ w (yH E ns P A n kb w k (Em.choose (Em.aG d) s so fA k)):=Ry (so:=so) hE hs hK h (S1.out.ro hR)
 clear h hI hd hR hn hs hK ih hZ
 go_enter Tryz.func203,Tryz.ntmps203
 go_upto_region 1 with (go_at_call 230;refine hch.mono ?_;rintro e w3 (⟨rfl,h0,h1⟩|⟨cs3,tk3,k3,ac3,nc3,cc3,rfl,h0,h1⟩);(· exact ⟨rfl,(.inl ⟨rfl,e1.out.trans (aF h0.out),S1.out.bad h1.out⟩)⟩);have e3:Hid _:=e1.out.trans (bind_some h0.out);clear h0 hch)
 clear e1
 obtain ⟨P3,hS3,hex,hfr⟩:=S1.out.choose h1.out.1 h1.out.2.2.1
 have kp:=hS3.keep HH.out.2.2.1
 have hse3:=HH.out.1.carry kp (eV.carry d kp)
 obtain ⟨vi,q2,hvi⟩:=hse3.iy
 obtain ⟨ai,gi,ci,rfl,hmi,hgi,hin⟩:=hvi
 obtain ⟨M,hM⟩:∃M,M=s.inside.length:=⟨_,rfl⟩
 rw[<-hM] at q2 hmi hgi
 have HB1:Hid (Two E ns P T (fun _=>False) kb b w k P3 T w3 k3 t c/\pQ A w3 (.slice ac3 nc3 cc3) cs3/\(∀g,(Value.slice ac3 nc3 cc3).ownBlock=some g->g<w3.heap.size/\¬(P3 g\/T g))/\(∀y∈cs3,vS ns n y.1)/\cs3.length≤1000000/\uG A w3 (eV A d w3) gS o s gd od/\Ro A (fun x=>P3 x\/T x) w3):=⟨hS3,h1.out.2.1,fun g hg=>⟨by obtain ⟨_,hr,_⟩:=h1.out.2.1;exact (hr.lt g hg).2,hex g hg⟩,h1.out.2.2.2.1,h1.out.2.2.2.2.2,hse3,hS3.roU HH.out.2.2.1⟩
 have HI:Hid ((0<M->ai=some ⟨gi,0,none⟩/\A gi)/\(∀j r,s.inside[j]?=some r->∃gr,w3.cell? ⟨gi,j,none⟩=some (.pointer (some ⟨gr,0,none⟩))/\eV A d w3 r gr)/\M=s.inside.length/\w3.cell? ⟨gS,o+2,none⟩=some (.slice ai M ci)/\A gS):=⟨hgi,hin,hM,q2,hse3.dA.2⟩
 have S3:Hid (Two E ns P3 T (fun _=>False) kb b w3 k3 P3 T w3 k3 t c):=Two.start hS3.cm hS3.im hS3.dis
 have hM6:(M:Int)≤1000000:=by have:=HH.out.2.1.il;omega
 have hbn:=nQ so tk3 S3.out.cm hE
 clear h1 hS3 hex hfr kp hse3 q2 hgi hin hM hmi S1
 go_upto_region 2 with (go_at_call 232;refine hbn.mono ?_;rintro e w4 (⟨rfl,h0,h1⟩|⟨x4,k4,rfl,h0,h1⟩);(· exact ⟨rfl,dC.up HB1.out.1 rfl (.inl ⟨rfl,e3.out.trans (aF h0.out),S3.out.bad h1.out⟩)⟩);obtain ⟨P4,S4⟩:∃P4,Hid (Two E ns P3 T (fun _=>False) kb b w3 k3 P4 T w4 k4 t (c)):=⟨_,S3.out.coder h1.out⟩;have e4:Hid _:=e3.out.trans (bind_some h0.out);clear h0 h1 hbn)
 have kp:=S4.out.keep HB1.out.2.2.2.2.2.2
 have hse:=HB1.out.2.2.2.2.2.1.carry kp (eV.carry d kp)
 obtain ⟨pr,q6,hpr⟩:=hse.re
 have q0:=hse.d
 obtain ⟨Br,hBr⟩:∃Br,pr.isSome=Br:=⟨_,rfl⟩
 have hne:∀w,(binOp BinOp.neq 253 (.pointer pr) (.pointer none)).run Tryz.prog w=.ok (.bool Br) w:=fun w=>by rw[<-hBr];exact Oe pr w
 have HBr:Hid (Br=!Em.Cj s.drawn.rests):=by rw[Hid,<-hBr];exact Fg hpr
 obtain ⟨B,hB⟩:∃B,B=(Br&&(x4 != -1)):=⟨_,rfl⟩
 have HB:Hid (B=(Br&&(x4 != -1))):=hB
 have HRE:Hid (jI A w4 s.drawn.rests (.pointer pr)):=hpr
 clear kp hse hpr hBr hB S3 e3
 go_cut [38] (fun s38 wx=>Hid (s38=.bool B/\wx=w4))
 case first=>
  cases Br with
  | false=>
   go_wp2_with fail
   go_meet
   case rel=>exact ⟨by rw[HB.out];rfl,rfl⟩
  | true=>
   by_cases hx:x4=-1
   ·have t1:(x4 == -1)=true:=by simpa using hx
    have t2:(x4 != -1)=false:=by simp[hx]
    clear hx
    go_wp2_with fail
    go_meet
    case rel=>exact ⟨by rw[HB.out,t2];rfl,rfl⟩
   ·have t1:(x4 == -1)=false:=by simpa using hx
    have t2:(x4 != -1)=true:=by simp[hx]
    clear hx
    go_wp2_with fail
    go_meet
    case rel=>exact ⟨by rw[HB.out,t2];rfl,rfl⟩
 case rest=>
  obtain ⟨h38,hwc⟩:=hcut.out
  subst h38
  subst hwc
  clear hne
  go_upto_if 38 with fail
  go_cut [10] (fun s10 wx=>∃(on:Int) (km:Kd),s10=.int .i64 on/\Hid (Z=Zi s (cs3,tk3) t on km/\∃Pm,Two E ns P3 T (fun _=>False) kb b w3 k3 Pm T wx km t c))
  case first=>
   cases B with
   | true=>
    have hno:¬(Em.Cj s.drawn.rests=true\/x4=-1):=by
     have h1:=HB.out
     rw[HBr.out] at h1
     rintro (h|h)
     ·rw[h] at h1;simp at h1
     ·rw[h] at h1;simp at h1
    have e5:Hid (Z=(Em.eK s.drawn.rests >>= fun x=>Em.bM 0 >>= fun z=>Em.made 17 x z x4 >>= fun on=>Zi s (cs3,tk3) t on) k4):=by
     rw[Hid,e4.out]
     show Xk s (cs3,tk3) t x4 k4=_
     unfold Xk
     rw[if_neg hno]
    have S5:=S4
    have hex:=kS (A:=A) (kb:=kb) (ns:=ns) hE s.drawn.rests HH.out.2.1.re HRE.out S5.out.cm (S5.out.ro HB1.out.2.2.2.2.2.2)
    clear hno e4
    go_wp2_with (first
     | (go_at_call 234;refine hex.mono ?_;rintro e w6 (⟨rfl,h0,h1⟩|⟨x6,k6,rfl,h0,h1⟩);(· exact ⟨rfl,dC.up HB1.out.1 rfl (.inl ⟨rfl,e5.out.trans (aF h0.out),S5.out.bad h1.out⟩)⟩);obtain ⟨P6,S6⟩:∃P6,Hid (Two E ns P3 T (fun _=>False) kb b w3 k3 P6 T w6 k6 t (c)):=⟨_,S5.out.coder h1.out⟩;have e6:Hid _:=e5.out.trans (bind_some h0.out);clear h0 h1 hex;have hnum:=dB (n:=0) S6.out.cm hE eF.zero)
     | (go_at_call 235;refine hnum.mono ?_;rintro e w7 (⟨rfl,h0,h1⟩|⟨x7,k7,rfl,h0,h1⟩);(· exact ⟨rfl,dC.up HB1.out.1 rfl (.inl ⟨rfl,e6.out.trans (aF h0.out),S6.out.bad h1.out⟩)⟩);obtain ⟨P7,S7⟩:∃P7,Hid (Two E ns P3 T (fun _=>False) kb b w3 k3 P7 T w7 k7 t (c)):=⟨_,S6.out.coder h1.out⟩;have e7:Hid _:=e6.out.trans (bind_some h0.out);clear h0 h1 hnum;have hmade:=gP 17 x6 x7 x4 S7.out.cm hE)
     | (go_at_call 233;refine hmade.mono ?_;rintro e w8 (⟨rfl,h0,h1⟩|⟨x8,k8,rfl,h0,h1⟩);(· exact ⟨rfl,dC.up HB1.out.1 rfl (.inl ⟨rfl,e7.out.trans (aF h0.out),S7.out.bad h1.out⟩)⟩);obtain ⟨P8,S8⟩:∃P8,Hid (Two E ns P3 T (fun _=>False) kb b w3 k3 P8 T w8 k8 t (c)):=⟨_,S7.out.coder h1.out⟩;have e8:Hid _:=e7.out.trans (bind_some h0.out);clear h0 h1 hmade))
    go_meet
    case rel=>exact ⟨x8,k8,rfl,e8.out,P8,S8.out⟩
   | false=>
    have hyes:Em.Cj s.drawn.rests=true\/x4=-1:=by
     have h1:=HB.out
     rw[HBr.out] at h1
     cases h2:Em.Cj s.drawn.rests with
     | true=>exact .inl rfl
     | false=>rw[h2] at h1;exact .inr (by simpa using h1)
    have HN2:Hid (Z=Zi s (cs3,tk3) t x4 k4/\∃Pm,Two E ns P3 T (fun _=>False) kb b w3 k3 Pm T wc k4 t c):=by
     refine ⟨?_,P4,S4.out⟩
     rw[e4.out]
     show Xk s (cs3,tk3) t x4 k4=_
     unfold Xk
     rw[if_pos hyes]
    clear hyes e4 S4
    go_wp2_with fail
    go_meet
    case rel=>exact ⟨x4,k4,rfl,HN2.out⟩
  case rest=>
   obtain ⟨on,km,rfl,hc⟩:=hcut
   obtain ⟨hc1,Pm,hc2⟩:=hc.out
   have S9:Hid (Two E ns P3 T (fun _=>False) kb b w3 k3 Pm T wc km t c):=hc2
   have e9:Hid (Z=(Em.uA on s.drawn.during >>= fun _=>Em.pF (Em.aG d) on s.inside >>= fun _=>Em.choose (Em.aG d) s on fB >>= fun c2=>Lo s (cs3,tk3) c2 t) km):=hc1
   have kp:=S9.out.keep HB1.out.2.2.2.2.2.2
   have hse:=HB1.out.2.2.2.2.2.1.carry kp (eV.carry d kp)
   obtain ⟨vd,q4,hvd⟩:=hse.du
   have r0:=hse.d
   have hdo:=tZ (so:=on) HH.out.2.1.du hvd S9.out.cm (S9.out.ro HB1.out.2.2.2.2.2.2) hE
   obtain ⟨va,vn,vc,rfl⟩:=hvd.sl'
   clear hc hc1 hc2 kp hse hvd S4 e4
   go_upto_region 5 with (go_at_call 236;refine hdo.mono ?_;rintro e w10 (⟨rfl,h0,h1⟩|⟨_,k10,rfl,h0,h1⟩);(· exact ⟨rfl,dC.up HB1.out.1 rfl (.inl ⟨rfl,e9.out.trans (aF h0.out),S9.out.bad h1.out⟩)⟩);obtain ⟨P10,S10⟩:∃P10,Hid (Two E ns P3 T (fun _=>False) kb b w3 k3 P10 T w10 k10 t (c)):=⟨_,S9.out.coder h1.out⟩;have e10:Hid _:=e9.out.trans (bind_some h0.out);clear h0 h1 hdo)
   obtain ⟨D,hD⟩:∃D:Unit->Em.M cR,D=fun _=>Em.choose (Em.aG d) s on fB >>= fun c2=>Lo s (cs3,tk3) c2 t:=⟨_,rfl⟩
   have HD:Hid (D=fun _=>Em.choose (Em.aG d) s on fB >>= fun c2=>Lo s (cs3,tk3) c2 t):=hD
   have q2:=cF (S10.out.keep HB1.out.2.2.2.2.2.2) HI.out.2.2.2.2 HI.out.2.2.2.1
   have HM0:Hid (Z=(Em.pF (Em.aG d) on (s.inside.drop 0) >>= D) k10/\∃Pj,Two E ns P3 T (fun _=>False) kb b w3 k3 Pj T w10 k10 t c):=⟨by rw[hD];exact e10.out,P10,S10.out⟩
   clear hD S9 e9 S10 e10 q4 r0
   go_wp2_with fail
   clear q2
   go_loopg [69] M (fun f i wr=>∃(j:Nat) (kj:Kd),f=M-j/\j≤M/\i=.int .i64 (j:Int)/\Hid (Z=(Em.pF (Em.aG d) on (s.inside.drop j) >>= D) kj/\∃Pj,Two E ns P3 T (fun _=>False) kb b w3 k3 Pj T wr kj t c))
   case atStart=>exact ⟨0,k10,by omega,by omega,rfl,HM0.out⟩
   case round=>
    obtain ⟨j,kj,rfl,hj,rfl,hr⟩:=hrel
    obtain ⟨hr1,P0,hT⟩:=hr.out
    by_cases hlt:j<M
    ·obtain ⟨r,hrr⟩:∃r:Rg d,s.inside[j]?=some r:=⟨s.inside[j]'(by rw[<-HI.out.2.2.1];exact hlt),List.getElem?_eq_getElem _⟩
     obtain ⟨gr,c0,hrg⟩:=HI.out.2.1 j r hrr
     have kp:=hT.keep HB1.out.2.2.2.2.2.2
     have hix:=Vf ai gi M ci j hlt (fun hp=>(HI.out.1 hp).1)
     have c0:=cF kp (HI.out.1 (by omega)).2 c0
     have hrg:=eV.carry d kp _ _ hrg
     have hrk:=HH.out.2.1.sub r (List.mem_of_getElem? hrr)
     obtain ⟨hAg,adr,capr,vo,fi,lv,hgb,hsz⟩:=eV.cells d hrg hrk
     obtain ⟨id,hid⟩:∃id,id=(Em.aG d).idle r:=⟨_,rfl⟩
     obtain ⟨nn,hnn⟩:∃nn,nn=(Em.aG d).size r:=⟨_,rfl⟩
     obtain ⟨th,hth⟩:∃th,th=(Em.aG d).there r:=⟨_,rfl⟩
     rw[<-hid,<-hnn,<-hth] at hgb
     have g4:=aA hgb 4 (u:=.bool id) rfl
     rw[dR hrr] at hr1
     by_cases hskip:on=-1\/id=true
     ·have HN2:Hid (Z=(Em.pF (Em.aG d) on (s.inside.drop (j+1)) >>= D) kj/\∃Pj,Two E ns P3 T (fun _=>False) kb b w3 k3 Pj T wr kj t c):=⟨hr1.trans (eC (m':=Em.pF (Em.aG d) on (s.inside.drop (j+1))) (Jy (by rw[<-hid];exact hskip))),P0,hT⟩
      by_cases hon:on=-1
      ·have t1:(on == -1)=true:=by simpa using hon
       have t2:(on != -1)=false:=by simp[hon]
       clear hr hr1 hT kp hrg hrk hgb hid hnn hth hskip hon hrr hAg
       go_wp2_with fail
       go_roundg (M-(j+1))
       case measure=>omega
       case rel=>exact ⟨j+1,kj,rfl,by omega,by go_num,HN2.out⟩
      ·have t1:(on == -1)=false:=by simpa using hon
       have t2:(on != -1)=true:=by simp[hon]
       obtain rfl:id=true:=by rcases hskip with h|h;exact absurd h hon;exact h
       clear hr hr1 hT kp hrg hrk hgb hid hnn hth hskip hon hrr hAg
       go_wp2_with fail
       go_roundg (M-(j+1))
       case measure=>omega
       case rel=>exact ⟨j+1,kj,rfl,by omega,by go_num,HN2.out⟩
     ·have hon:¬on=-1:=fun h=>hskip (.inl h)
      have t1:(on == -1)=false:=by simpa using hon
      have t2:(on != -1)=true:=by simp[hon]
      obtain rfl:id=false:=by cases id;rfl;exact absurd (.inr rfl) hskip
      have g0:=aA hgb 0 (u:=.slice adr nn capr) rfl
      have g3:=aA hgb 3 (u:=.int .i64 th) rfl
      have g3':∀ob,(wr.alloc ob).cell? ⟨gr,3,none⟩=some (.int .i64 th):=fun ob=>aM (aC wr ob) g3
      have e10:Hid (Z=(Em.given on th >>= fun h=>(Em.aG d).goOn r h (List.replicate ((Em.aG d).size r) []) >>= fun _=>Em.pF (Em.aG d) on (s.inside.drop (j+1)) >>= D) kj):=by
       rw[Hid,hth]
       refine hr1.trans ((eC (Vt (by rw[<-hid];exact hskip))).trans ?_)
       simp only[oD]
      have hmk:∀W,(Instr.makeSlice 225 (.int .i64 (nn:Int)) (.int .i64 (nn:Int))).run Tryz.prog W=.ok (.slice (some ⟨W.heap.size,0,none⟩) nn nn) (W.alloc (.cells (List.replicate nn (Value.slice none 0 0)).toArray 271)):=fun W=>Ol W nn (by rw[hnn];exact hsz)
      have hR0:=hT.ro HB1.out.2.2.2.2.2.2
      have hgv:∀W,Below wr.heap.size wr W->Calls Tryz.prog 237 #[.pointer (some ⟨kb,0,none⟩),.int .i64 on,.int .i64 th] W (eY E ns P0 kb W kj (Em.given on th kj) (Value.int .i64)):=fun W hb=>tW on th (hT.cm.below hb) hE
      have HG:Hid (Two E ns P3 T (fun _=>False) kb b w3 k3 P0 T wr kj t c/\wr.heap[gr]?=some (.cells #[.slice adr nn capr,vo,.int .i64 fi,.int .i64 th,.bool false,.bool lv] 223 (0,0))/\(∀x,P0 x->x<wr.heap.size)/\Ro A P0 wr/\eV A d wr r gr/\eN ns d r/\¬P0 gr):=⟨hT,hgb,hT.cm.2.2,hR0,hrg,hrk,(hR0 gr hAg).2⟩
      have hd0:Below wr.heap.size wr wr.drew:=⟨rfl,rfl,rfl,Nat.le_refl _,fun _ _=>rfl⟩
      have hd1:∀ob,Below wr.heap.size wr (wr.drew.alloc ob):=fun ob=>aN hd0 (aC wr.drew ob)
      have hd2:∀ob,Below wr.heap.size wr (wr.alloc ob).drew:=fun ob=>(aC wr ob).drew
      have HNN:Hid (nn=(Em.aG d).size r):=hnn
      have HSZ:Hid (∀ob,(wr.drew.alloc ob).heap.size=wr.heap.size+1/\(wr.alloc ob).drew.heap.size=wr.heap.size+1):=fun ob=>⟨by simp,by simp⟩
      clear hr hr1 hT kp hrg hrk hgb hid hth hskip hon hrr hAg hR0
      subst hnn
      go_upto_region 9 with fail
      clear t1 t2 g4 hix c0
      go_region_law (first
       | (go_simp;go_at_call 237;refine (hgv _ (by first|exact hd0|exact hd1 _|exact hd2 _)).mono ?_;rintro e w11 (⟨rfl,h0,h1⟩|⟨x11,k11,rfl,h0,h1⟩);(· exact ⟨rfl,dC.up HB1.out.1 rfl (.inl ⟨rfl,e10.out.trans (aF h0.out),HG.out.1.bad ((bH.of_below (by first|exact hd0|exact hd1 _|exact hd2 _)).trans h1.out fun _ _ h=>h)⟩)⟩)
          have e11:Hid _:=e10.out.trans (bind_some h0.out)
          have hg1:w11.heap[gr]?=some (.cells #[.slice adr ((Em.aG d).size r) capr,vo,.int .i64 fi,.int .i64 th,.bool false,.bool lv] 223 (0,0)):=h1.out.2.1.heap (by first|exact aH hd0 HG.out.2.1|exact aH (hd1 _) HG.out.2.1|exact aH (hd2 _) HG.out.2.1) HG.out.2.2.2.2.2.2
          have z0:=aA hg1 0 (u:=.slice adr ((Em.aG d).size r) capr) rfl
          first
           | (have hgo:=xT (here:=x11) (b':=wr.heap.size) HH.out.2.2.2.2 HG.out.2.2.1 (hd1 _) h1.out (Below.refl _ _) ⟨Nat.le_refl _,fun hu=>hu.elim (fun h=>absurd (HG.out.2.2.1 _ h) (by omega)) fun h=>absurd h.1 (by rw[(HSZ.out _).1];omega)⟩ (h1.out.2.1.heap (bE wr.drew _) (fun h=>absurd (HG.out.2.2.1 _ h) (Nat.lt_irrefl _))) HG.out.2.2.2.1 HG.out.2.2.2.2.1 HG.out.2.2.2.2.2.1)
           | (have hgo:=xT (here:=x11) (b':=wr.heap.size) HH.out.2.2.2.2 HG.out.2.2.1 (hd2 _) h1.out (Below.refl _ _) ⟨Nat.le_refl _,fun hu=>hu.elim (fun h=>absurd (HG.out.2.2.1 _ h) (by omega)) fun h=>absurd h.1 (by rw[(HSZ.out _).2];omega)⟩ (h1.out.2.1.heap (show (wr.alloc _).drew.heap[wr.heap.size]?=_ from bE wr _) (fun h=>absurd (HG.out.2.2.1 _ h) (Nat.lt_irrefl _))) HG.out.2.2.2.1 HG.out.2.2.2.2.1 HG.out.2.2.2.2.2.1)
           | (have hgo:=xT (here:=x11) (b':=w11.heap.size) (W':=w11.alloc (.cells (Array.replicate ((Em.aG d).size r) (Value.slice none 0 0)) 271)) HH.out.2.2.2.2 HG.out.2.2.1 hd0 h1.out (aC _ _) ⟨h1.out.2.1.size,fun hu=>absurd (h1.out.1.2.2 _ hu) (Nat.lt_irrefl _)⟩ (bE _ _) HG.out.2.2.2.1 HG.out.2.2.2.2.1 HG.out.2.2.2.2.2.1)
          clear h0 h1 hg1)
       | (go_simp;go_at_call 149;refine hgo.mono ?_;rintro e w12 h12;rcases h12 with ⟨rfl,h0,h1⟩|⟨k12,rfl,h0,h1⟩;(· exact ⟨rfl,dC.up HB1.out.1 rfl (.inl ⟨rfl,e11.out.trans (aF h0.out),HG.out.1.bad h1.out⟩)⟩);obtain ⟨P12,S12⟩:∃P12,Hid (Two E ns P3 T (fun _=>False) kb b w3 k3 P12 T w12 k12 t c):=⟨_,HG.out.1.coder h1.out⟩;have e12:Hid _:=e11.out.trans (bind_some h0.out);clear h0 h1 hgo))
      all_goals
       have HN2:Hid (Z=(Em.pF (Em.aG d) on (s.inside.drop (j+1)) >>= D) k12/\∃Pj,Two E ns P3 T (fun _=>False) kb b w3 k3 Pj T w12 k12 t c):=⟨e12.out,P12,S12.out⟩
       clear e10 e11 e12 S12 HG
       go_wp2_with fail
       go_roundg (M-(j+1))
       case measure=>omega
       case rel=>exact ⟨j+1,k12,rfl,by omega,by go_num,HN2.out⟩
    ·obtain rfl:j=M:=by omega
     have S5:Hid (Two E ns P3 T (fun _=>False) kb b w3 k3 P0 T wr kj t c):=hT
     have e5:Hid (Z=(Em.choose (Em.aG d) s on fB >>= fun c2=>Lo s (cs3,tk3) c2 t) kj):=by
      rw[Hid,hr1,HD.out,HI.out.2.2.1,List.drop_length];rfl
     have kp:=hT.keep HB1.out.2.2.2.2.2.2
     have hch:Calls Tryz.prog 230 _ wr (yH E ns P0 A n kb wr kj (Em.choose (Em.aG d) s on fB kj)):=Rx (so:=on) hE (HB1.out.2.2.2.2.2.1.carry kp (eV.carry d kp)) HH.out.2.1 S5.out.cm (S5.out.ro HB1.out.2.2.2.2.2.2)
     clear hr hr1 hT kp HM0
     go_upto_region 12 with (go_at_call 230;refine hch.mono ?_;rintro e w6 (⟨rfl,h0,h1⟩|⟨cs6,tk6,k6,ac6,nc6,cc6,rfl,h0,h1⟩);(· exact ⟨rfl,dC.up HB1.out.1 rfl (.inl ⟨rfl,e5.out.trans (aF h0.out),S5.out.bad h1.out⟩)⟩);have e6:Hid _:=e5.out.trans (bind_some h0.out);clear h0 hch)
     obtain ⟨P6,hS6,hex,hfr⟩:=S5.out.choose h1.out.1 h1.out.2.2.1
     have kp:=hS6.keep HB1.out.2.2.2.2.2.2
     have hse6:=HB1.out.2.2.2.2.2.1.carry kp (eV.carry d kp)
     have HB2:Hid (Two E ns P3 T (fun _=>False) kb b w3 k3 P6 T w6 k6 t c/\pQ A w6 (.slice ac6 nc6 cc6) cs6/\(∀g,(Value.slice ac6 nc6 cc6).ownBlock=some g->g<w6.heap.size/\¬(P6 g\/T g))/\(∀y∈cs6,vS ns n y.1)/\cs6.length≤1000000/\pQ A w6 (.slice ac3 nc3 cc3) cs3/\(∀g,(Value.slice ac3 nc3 cc3).ownBlock=some g->g<w6.heap.size/\¬(P6 g\/T g))/\uG A w6 (eV A d w6) gS o s gd od/\Ro A (fun x=>P6 x\/T x) w6):=by
      refine ⟨hS6,h1.out.2.1,fun g hg=>⟨by obtain ⟨_,hr,_⟩:=h1.out.2.1;exact (hr.lt g hg).2,hex g hg⟩,h1.out.2.2.2.1,h1.out.2.2.2.2.2,HB1.out.2.1.keep kp (fun g hg=>hS6.fr.block g (HB1.out.2.2.1 g hg).1 (HB1.out.2.2.1 g hg).2),fun g hg=>⟨Nat.lt_of_lt_of_le (HB1.out.2.2.1 g hg).1 hS6.fr.size,fun hp=>?_⟩,hse6,hS6.roU HB1.out.2.2.2.2.2.2⟩
      have hq:=HB1.out.2.2.1 g hg
      rcases hp with hp|hp
      ·exact (hS6.up g hp).1.elim (fun h=>hq.2 (.inl h)) fun h=>absurd h.1 (by omega)
      ·exact hq.2 (.inr hp)
     have S6:Hid (Two E ns P6 T (fun _=>False) kb b w6 k6 P6 T w6 k6 t c):=Two.start hS6.cm hS6.im hS6.dis
     have q4:=hse6.leaves
     obtain ⟨lv,hlv⟩:∃lv,lv=s.leaves:=⟨_,rfl⟩
     rw[<-hlv] at q4
     have TK1:Hid True:=trivial
     clear h1 hS6 hex hfr kp S5 e5
     cases lv with
     | false=>
      have e7:Hid (Z=(Em.take cs3 t >>= fun t'=>Em.take cs6 t') k6):=by
       rw[Hid,e6.out]
       show Lo s (cs3,tk3) (cs6,tk6) t k6=_
       unfold Lo
       rw[<-hlv,if_neg (by simp)]
       rfl
      have S7:=S6
      clear e6 hlv hse6 S6
      have ks:=S7.out.keep HB2.out.2.2.2.2.2.2.2.2
      have hv1:pQ A w6 (.slice ac3 nc3 cc3) cs3:=HB2.out.2.2.2.2.2.1.keep ks fun g hg=>S7.out.fr.block g (HB2.out.2.2.2.2.2.2.1 g hg).1 (HB2.out.2.2.2.2.2.2.1 g hg).2
      have hv2:pQ A w6 (.slice ac6 nc6 cc6) cs6:=HB2.out.2.1.keep ks fun g hg=>S7.out.fr.block g (HB2.out.2.2.1 g hg).1 (HB2.out.2.2.1 g hg).2
      have hx1:∀g,(Value.slice ac3 nc3 cc3).ownBlock=some g->¬(P6 g\/T g):=fun g hg hp=>by
       have hq:=HB2.out.2.2.2.2.2.2.1 g hg
       rcases hp with hp|hp
       ·exact (S7.out.up g hp).1.elim (fun h=>hq.2 (.inl h)) fun h=>absurd h.1 (by omega)
       ·exact hq.2 (.inr hp)
      have hx2:∀g,(Value.slice ac6 nc6 cc6).ownBlock=some g->¬(P6 g\/T g)/\g<w6.heap.size:=fun g hg=>by
       have hq:=HB2.out.2.2.1 g hg
       refine ⟨fun hp=>?_,Nat.lt_of_lt_of_le hq.1 S7.out.fr.size⟩
       rcases hp with hp|hp
       ·exact (S7.out.up g hp).1.elim (fun h=>hq.2 (.inl h)) fun h=>absurd h.1 (by omega)
       ·exact hq.2 (.inr hp)
      have hRm:=S7.out.roU HB2.out.2.2.2.2.2.2.2.2
      have htk:=dQ (n:=n) hE hv1 hx1 HB1.out.2.2.2.1 HH.out.2.2.2.1 HB1.out.2.2.2.2.1 S7.out.cm S7.out.im S7.out.dis hRm (by omega)
      have HT:Hid (pQ A w6 (.slice ac6 nc6 cc6) cs6/\(∀g,(Value.slice ac6 nc6 cc6).ownBlock=some g->¬(P6 g\/T g)/\g<w6.heap.size)/\Ro A (fun x=>P6 x\/T x) w6):=⟨hv2,hx2,hRm⟩
      clear ks hv1 hv2 hx1 hx2 hRm
      go_wp2_with (first
       | (clear TK1;go_at_call 241;refine htk.mono ?_;rintro e w17 (⟨rfl,h0,h1⟩|⟨t7,k7,rfl,h0,P7,T7,h7⟩);(· exact ⟨rfl,dC.up HB1.out.1 rfl (dC.up HB2.out.1 rfl (dC.up S7.out e7.out (.inl ⟨rfl,aF h0.out,h1⟩)))⟩);have H7:Hid _:=h7;have E7:Hid _:=h0.out;have kq:aX A A w6 w17:=h7.keep HT.out.2.2;have hv7:pQ A w17 (.slice ac6 nc6 cc6) cs6:=HT.out.1.keep kq (fun g hg=>h7.fr.block g (HT.out.2.1 g hg).2 (HT.out.2.1 g hg).1);have hx7:∀g,(Value.slice ac6 nc6 cc6).ownBlock=some g->¬(P7 g\/T7 g):=(fun g hg hp=>by { have hq:=HT.out.2.1 g hg;rcases hp with hp|hp;exact (h7.up g hp).1.elim (fun h=>hq.1 (.inl h)) (fun h=>absurd h.1 (by omega));exact (h7.ut g hp).1.elim (fun h=>hq.1 (.inr h)) (fun h=>absurd h.1 (by omega)) });have htk2:=dQ (n:=n) hE hv7 hx7 HB2.out.2.2.2.1 (by rw[jO h0.out];exact HH.out.2.2.2.1) HB2.out.2.2.2.2.1 h7.cm h7.im h7.dis (h7.roU HT.out.2.2) (by omega);clear h0 h7 kq hv7 hx7 htk)
       | (go_at_call 241;refine htk2.mono ?_;rintro e w18 h8;rcases h8 with ⟨rfl,h0,h1⟩|⟨t8,k8,rfl,h0,h1⟩;(· exact ⟨rfl,dC.up HB1.out.1 rfl (dC.up HB2.out.1 rfl (dC.up S7.out e7.out (dC.up H7.out (bind_some E7.out) (.inl ⟨rfl,h0,h1⟩))))⟩)))
      go_end0
      exact dC.up HB1.out.1 rfl (dC.up HB2.out.1 rfl (dC.up S7.out e7.out (dC.up H7.out (bind_some E7.out) (.inr ⟨t8,k8,rfl,h0,h1⟩))))
     | true=>
      have e7:Hid (Z=(Em.tN tk3 tk6 >>= fun gone=>Em.dG (Em.aG d) s.inside gone >>= fun _=>Em.uA gone s.drawn.leave >>= fun _=>Em.take cs3 t >>= fun t'=>Em.take cs6 t') k6):=by
       rw[Hid,e6.out]
       show Lo s (cs3,tk3) (cs6,tk6) t k6=_
       unfold Lo
       rw[<-hlv,if_pos rfl]
       rfl
      have S7:=S6
      have hor:=oZ tk3 tk6 S7.out.cm hE
      clear e6 hlv hse6 S6
      go_upto_region 14 with (go_at_call 239;refine hor.mono ?_;rintro e w8 (⟨rfl,h0,h1⟩|⟨x8,k8,rfl,h0,h1⟩);(· exact ⟨rfl,dC.up HB1.out.1 rfl (dC.up HB2.out.1 rfl (.inl ⟨rfl,e7.out.trans (aF h0.out),S7.out.bad h1.out⟩))⟩);obtain ⟨P8,S8⟩:∃P8,Hid (Two E ns P6 T (fun _=>False) kb b w6 k6 P8 T w8 k8 t (c)):=⟨_,S7.out.coder h1.out⟩;have e8:Hid _:=e7.out.trans (bind_some h0.out);clear h0 h1 hor)
      clear S7 e7 q4
      have kp:=S8.out.keep HB2.out.2.2.2.2.2.2.2.2
      have hse:=HB2.out.2.2.2.2.2.2.2.1.carry kp (eV.carry d kp)
      obtain ⟨vj,q2,hvj⟩:=hse.iy
      have hlv2:=rF hE d (so:=x8) hvj HH.out.2.1.sub S8.out.cm (S8.out.ro HB2.out.2.2.2.2.2.2.2.2)
      obtain ⟨aj,gj,cj,rfl,_⟩:=hvj
      clear kp hse
      go_upto_region 15 with (go_at_call 240;refine hlv2.mono ?_;rintro e w9 (⟨rfl,h0,h1⟩|⟨_,k9,rfl,h0,h1⟩);(· exact ⟨rfl,dC.up HB1.out.1 rfl (dC.up HB2.out.1 rfl (.inl ⟨rfl,e8.out.trans (aF h0.out),S8.out.bad h1.out⟩))⟩);obtain ⟨P9,S9⟩:∃P9,Hid (Two E ns P6 T (fun _=>False) kb b w6 k6 P9 T w9 k9 t (c)):=⟨_,S8.out.coder h1.out⟩;have e9:Hid _:=e8.out.trans (bind_some h0.out);clear h0 h1 hlv2)
      clear S8 e8 q2
      have kp:=S9.out.keep HB2.out.2.2.2.2.2.2.2.2
      have hse:=HB2.out.2.2.2.2.2.2.2.1.carry kp (eV.carry d kp)
      obtain ⟨vl,q5,hvl⟩:=hse.le
      have r0:=hse.d
      have hdo:=tZ (so:=x8) HH.out.2.1.le hvl S9.out.cm (S9.out.ro HB2.out.2.2.2.2.2.2.2.2) hE
      obtain ⟨va',vn',vc',rfl⟩:=hvl.sl'
      clear kp hse hvl
      go_upto_region 16 with (go_at_call 236;refine hdo.mono ?_;rintro e w11 (⟨rfl,h0,h1⟩|⟨_,k11,rfl,h0,h1⟩);(· exact ⟨rfl,dC.up HB1.out.1 rfl (dC.up HB2.out.1 rfl (.inl ⟨rfl,e9.out.trans (aF h0.out),S9.out.bad h1.out⟩))⟩);obtain ⟨P11,S11⟩:∃P11,Hid (Two E ns P6 T (fun _=>False) kb b w6 k6 P11 T w11 k11 t (c)):=⟨_,S9.out.coder h1.out⟩;have e11:Hid _:=e9.out.trans (bind_some h0.out);clear h0 h1 hdo)
      clear S9 e9 q5 r0
      have ks:=S11.out.keep HB2.out.2.2.2.2.2.2.2.2
      have hv1:pQ A w11 (.slice ac3 nc3 cc3) cs3:=HB2.out.2.2.2.2.2.1.keep ks fun g hg=>S11.out.fr.block g (HB2.out.2.2.2.2.2.2.1 g hg).1 (HB2.out.2.2.2.2.2.2.1 g hg).2
      have hv2:pQ A w11 (.slice ac6 nc6 cc6) cs6:=HB2.out.2.1.keep ks fun g hg=>S11.out.fr.block g (HB2.out.2.2.1 g hg).1 (HB2.out.2.2.1 g hg).2
      have hx1:∀g,(Value.slice ac3 nc3 cc3).ownBlock=some g->¬(P11 g\/T g):=fun g hg hp=>by
       have hq:=HB2.out.2.2.2.2.2.2.1 g hg
       rcases hp with hp|hp
       ·exact (S11.out.up g hp).1.elim (fun h=>hq.2 (.inl h)) fun h=>absurd h.1 (by omega)
       ·exact hq.2 (.inr hp)
      have hx2:∀g,(Value.slice ac6 nc6 cc6).ownBlock=some g->¬(P11 g\/T g)/\g<w11.heap.size:=fun g hg=>by
       have hq:=HB2.out.2.2.1 g hg
       refine ⟨fun hp=>?_,Nat.lt_of_lt_of_le hq.1 S11.out.fr.size⟩
       rcases hp with hp|hp
       ·exact (S11.out.up g hp).1.elim (fun h=>hq.2 (.inl h)) fun h=>absurd h.1 (by omega)
       ·exact hq.2 (.inr hp)
      have hRm:=S11.out.roU HB2.out.2.2.2.2.2.2.2.2
      have htk:=dQ (n:=n) hE hv1 hx1 HB1.out.2.2.2.1 HH.out.2.2.2.1 HB1.out.2.2.2.2.1 S11.out.cm S11.out.im S11.out.dis hRm (by omega)
      have HT:Hid (pQ A w11 (.slice ac6 nc6 cc6) cs6/\(∀g,(Value.slice ac6 nc6 cc6).ownBlock=some g->¬(P11 g\/T g)/\g<w11.heap.size)/\Ro A (fun x=>P11 x\/T x) w11):=⟨hv2,hx2,hRm⟩
      clear ks hv1 hv2 hx1 hx2 hRm
      go_wp2_with (first
       | (clear TK1;go_at_call 241;refine htk.mono ?_;rintro e w17 (⟨rfl,h0,h1⟩|⟨t7,k7,rfl,h0,P7,T7,h7⟩);(· exact ⟨rfl,dC.up HB1.out.1 rfl (dC.up HB2.out.1 rfl (dC.up S11.out e11.out (.inl ⟨rfl,aF h0.out,h1⟩)))⟩);have H7:Hid _:=h7;have E7:Hid _:=h0.out;have kq:aX A A w11 w17:=h7.keep HT.out.2.2;have hv7:pQ A w17 (.slice ac6 nc6 cc6) cs6:=HT.out.1.keep kq (fun g hg=>h7.fr.block g (HT.out.2.1 g hg).2 (HT.out.2.1 g hg).1);have hx7:∀g,(Value.slice ac6 nc6 cc6).ownBlock=some g->¬(P7 g\/T7 g):=(fun g hg hp=>by { have hq:=HT.out.2.1 g hg;rcases hp with hp|hp;exact (h7.up g hp).1.elim (fun h=>hq.1 (.inl h)) (fun h=>absurd h.1 (by omega));exact (h7.ut g hp).1.elim (fun h=>hq.1 (.inr h)) (fun h=>absurd h.1 (by omega)) });have htk2:=dQ (n:=n) hE hv7 hx7 HB2.out.2.2.2.1 (by rw[jO h0.out];exact HH.out.2.2.2.1) HB2.out.2.2.2.2.1 h7.cm h7.im h7.dis (h7.roU HT.out.2.2) (by omega);clear h0 h7 kq hv7 hx7 htk)
       | (go_at_call 241;refine htk2.mono ?_;rintro e w18 h8;rcases h8 with ⟨rfl,h0,h1⟩|⟨t8,k8,rfl,h0,h1⟩;(· exact ⟨rfl,dC.up HB1.out.1 rfl (dC.up HB2.out.1 rfl (dC.up S11.out e11.out (dC.up H7.out (bind_some E7.out) (.inl ⟨rfl,h0,h1⟩))))⟩)))
      go_end0
      exact dC.up HB1.out.1 rfl (dC.up HB2.out.1 rfl (dC.up S11.out e11.out (dC.up H7.out (bind_some E7.out) (.inr ⟨t8,k8,rfl,h0,h1⟩))))
end
end Ew
end
section
open Go.RowKit Px
namespace Ew
open Px.Em (Kd Vr eL eM jG Rg cR)
open Nx (Nt Sp)
section
variable {P T X P1 T1 A:Nat->Prop}{w wr w2:World}{kb b E c d:Nat}{ns:List bB}{k kj k2:Kd}{t:cR}
theorem Qa {s:eM (St d) (Rg d)}{so:Int}{t':cR}{k':Kd}(h:Em.eO (Em.aG d) s so t k=some (t',k')):t'.length=t.length:=by
 rw[Fz] at h
 obtain ⟨c1,k3,_,h⟩:=cQ h
 obtain ⟨on,k4,_,h⟩:=cQ h
 have h8:∀{c2:List (eL×Int)×Int}{k:Kd},Xo c1 c2 t k=some (t',k')->t'.length=t.length:=fun {c2 k} h=>by
  obtain ⟨t1,k5,h5,h6⟩:=cQ h
  rw[jO h6,jO h5]
 have h7:∀{c2:List (eL×Int)×Int}{k:Kd},Lo s c1 c2 t k=some (t',k')->t'.length=t.length:=fun {c2 k} h=>by
  unfold Lo at h
  split at h
  ·obtain ⟨_,_,_,h⟩:=cQ h
   obtain ⟨_,_,_,h⟩:=cQ h
   obtain ⟨_,_,_,h⟩:=cQ h
   exact h8 h
  ·exact h8 h
 have h5:∀{on:Int}{k:Kd},Zi s c1 t on k=some (t',k')->t'.length=t.length:=fun {bk k} h=>by
  obtain ⟨_,_,_,h⟩:=cQ h
  obtain ⟨_,_,_,h⟩:=cQ h
  obtain ⟨_,_,_,h⟩:=cQ h
  exact h7 h
 unfold Xk at h
 split at h
 ·exact h5 h
 ·obtain ⟨_,_,_,h⟩:=cQ h
  obtain ⟨_,_,_,h⟩:=cQ h
  obtain ⟨_,_,_,h⟩:=cQ h
  exact h5 h
theorem Qd {here:Int}{s:eM (St d) (Rg d)}{l:List (eM (St d) (Rg d))}{i:Nat}(h:s.idle=true):Em.Do (Em.aG d) here (s::l) i t k=Em.Do (Em.aG d) here l (i+1) t k:=by rw[Em.Do,if_pos h]
theorem Zj {here:Int}{s:eM (St d) (Rg d)}{l:List (eM (St d) (Rg d))}{i:Nat}(h:s.idle=false):Em.Do (Em.aG d) here (s::l) i t k=(Em.is here i >>= fun so=>Em.eO (Em.aG d) s so t >>= fun t'=>Em.Do (Em.aG d) here l (i+1) t') k:=by rw[Em.Do,if_neg (by rw[h];simp)]
theorem Jx (hE:E<1000000) (ih:Ll A kb E ns d) {r:jG (St d) (Rg d)}{g n:Nat}{here:Int}(hr:Lh A w (eV A d w) r g) (hk:Lp ns (eN ns d) r) (h:eG E ns P w kb k) (hI:vJ T w b t c) (hd:∀x,P x->¬T x) (hR:Ro A (fun x=>P x\/T x) w) (hn:t.length=n) (hnr:n=r.states.length) (hc:c≤2000000) :
    Calls Tryz.prog 149 #[.pointer (some ⟨kb,0,none⟩),.pointer (some ⟨g,0,none⟩),.int .i64 here,.slice (some ⟨b,0,none⟩) n n] w (mU E ns P T kb w k (Em.goOn (Em.aG d) r here t k)):=by
 obtain ⟨Z,hZ⟩:∃Z,Z=Em.goOn (Em.aG d) r here t k:=⟨_,rfl⟩
 have HZ:Hid (Z=(Em.Do (Em.aG d) here r.states 0 t >>= fun t'=>Em.bS (Em.aG d) r r.order t') k):=hZ
 rw[<-hZ]
 have hr0:=hr
 obtain ⟨gS,aS,cS,vo,hg,hAg,hS,hord,hst⟩:=hr
 rw[<-hnr] at hg hS
 have g0:=aA hg 0 (u:=.slice aS n cS) rfl
 have HG:Hid (w.heap[g]?=some (.cells #[.slice aS n cS,vo,.int .i64 r.first,.int .i64 r.there,.bool r.idle,.bool r.leaves] 223 (0,0))/\A g/\(0<n->aS=some ⟨gS,0,none⟩/\A gS)/\(∀i s,r.states[i]?=some s->∃gd od,uG A w (eV A d w) gS (i*5) s gd od)/\Lp ns (eN ns d) r/\n=r.states.length/\n≤1000000/\Lh A w (eV A d w) r g):=⟨hg,hAg,hS,hst,hk,hnr,by rw[hnr];exact hk.n,hr0⟩
 have HC:Hid (Two E ns P T (fun _=>False) kb b w k P T w k t c/\Ro A (fun x=>P x\/T x) w/\t.length=n/\Ll A kb E ns d):=⟨Two.start h hI hd,hR,hn,ih⟩
 have hn6:(n:Int)≤1000000:=by have:=hk.n;omega
 clear h hI hd hR hn hnr ih hk hg hAg hS hord hst hZ hr0
 go_enter Tryz.func149,Tryz.ntmps149
 go_wp2_with fail
 clear g0
 go_loopg [15] n (fun f i wr=>∃(j:Nat) (kj:Kd) (tj:cR),f=n-j/\j≤n/\i=.int .i64 (j:Int)/\Hid (Z=(Em.Do (Em.aG d) here (r.states.drop j) j tj >>= fun t'=>Em.bS (Em.aG d) r r.order t') kj/\tj.length=n/\∃Pj Tj,Two E ns P T (fun _=>False) kb b w k Pj Tj wr kj tj (c+2000000*j)))
 case atStart=>exact ⟨0,k,t,by omega,by omega,rfl,HZ.out,HC.out.2.2.1,P,T,HC.out.1⟩
 case round=>
  obtain ⟨j,kj,tj,rfl,hj,rfl,hr⟩:=hrel
  obtain ⟨hr1,hr2,Pj,Tj,hT⟩:=hr.out
  by_cases hlt:j<n
  ·obtain ⟨s,hs⟩:∃s:eM (St d) (Rg d),r.states[j]?=some s:=⟨_,List.getElem?_eq_getElem (by rw[<-HG.out.2.2.2.2.2.1];exact hlt)⟩
   obtain ⟨gd,od,hse0⟩:=HG.out.2.2.2.1 j s hs
   have kp:=hT.keep HC.out.2.1
   have hse:=hse0.carry kp (eV.carry d kp)
   have hgk:=kC kp HG.out.2.1 HG.out.1
   have g0:=aA hgk 0 (u:=.slice aS n cS) rfl
   have hix:=Pg aS gS n cS j hlt (fun hp=>(HG.out.2.2.1 hp).1)
   have hSK:=HG.out.2.2.2.2.1.st s (List.mem_of_getElem? hs)
   rw[<-HG.out.2.2.2.2.2.1] at hSK
   obtain ⟨oS,hoS⟩:∃oS,oS=j*5:=⟨_,rfl⟩
   rw[<-hoS] at hse hse0 hix
   obtain ⟨id,hid⟩:∃id,id=s.idle:=⟨_,rfl⟩
   have q3:=hse.idle
   rw[<-hid] at q3
   rw[dR hs] at hr1
   cases id with
   | true=>
    have HN2:Hid (Z=(Em.Do (Em.aG d) here (r.states.drop (j+1)) (j+1) tj >>= fun t'=>Em.bS (Em.aG d) r r.order t') kj/\tj.length=n/\∃Pj Tj,Two E ns P T (fun _=>False) kb b w k Pj Tj wr kj tj (c+2000000*(j+1))):=⟨hr1.trans (eC (m':=Em.Do (Em.aG d) here (r.states.drop (j+1)) (j+1) tj) (Qd hid.symm)),hr2,Pj,Tj,hT.more (by omega)⟩
    clear hr hr1 hr2 hT kp hse hse0 hgk hSK hoS hid hs
    go_wp2_with fail
    go_roundg (n-(j+1))
    case measure=>omega
    case rel=>exact ⟨j+1,kj,tj,rfl,by omega,by go_num,HN2.out⟩
   | false=>
    obtain ⟨cj,hcj⟩:∃cj,cj=c+2000000*j:=⟨_,rfl⟩
    have HCJ:Hid (cj=c+2000000*j/\cj≤6000000000000):=⟨hcj,by have:=HG.out.2.2.2.2.2.2.1;omega⟩
    rw[<-hcj] at hT
    have S1:Hid (Two E ns P T (fun _=>False) kb b w k Pj Tj wr kj tj cj):=hT
    have his:=G1 here j (by omega) hT.cm hE
    have e1:Hid (Z=(Em.is here j >>= fun so=>Em.eO (Em.aG d) s so tj >>= fun t'=>Em.Do (Em.aG d) here (r.states.drop (j+1)) (j+1) t' >>= fun t'=>Em.bS (Em.aG d) r r.order t') kj):=by
     refine hr1.trans ((eC (Zj hid.symm)).trans ?_)
     simp only[oD]
    have HSE:Hid (uG A w (eV A d w) gS oS s gd od/\zA ns n (eN ns d) s/\tj.length=n):=⟨hse0,hSK,hr2⟩
    clear hr hr1 hr2 hT kp hse hse0 hgk hSK hoS hid hs hcj
    go_wp2_with (first
     | (go_at_call 204;refine his.mono ?_;rintro e w2 (⟨rfl,h0,h1⟩|⟨x2,k2,rfl,h0,h1⟩);(· exact ⟨rfl,(.inl ⟨rfl,e1.out.trans (aF h0.out),S1.out.bad h1.out⟩)⟩);obtain ⟨P2,S2⟩:∃P2,Hid (Two E ns P T (fun _=>False) kb b w k P2 Tj w2 k2 tj (cj)):=⟨_,S1.out.coder h1.out⟩;have e2:Hid _:=e1.out.trans (bind_some h0.out);clear h0 h1 his;have kp:=S2.out.keep HC.out.2.1;have hgo:=Qb (n:=n) (so:=x2) hE HC.out.2.2.2 (HSE.out.1.carry kp (eV.carry d kp)) HSE.out.2.1 S2.out.cm S2.out.im S2.out.dis (S2.out.roU HC.out.2.1) HSE.out.2.2 HCJ.out.2;clear kp)
     | (go_at_call 203;refine hgo.mono ?_;rintro e w5 h5;rcases h5 with ⟨rfl,h0,h1⟩|⟨t5,k5,rfl,h0,P5,T5,h5⟩;(· exact ⟨rfl,.inl ⟨rfl,e2.out.trans (aF h0.out),S2.out.fr.trans h1.out fun x hx h=>by { rcases h with h|h;exact (S2.out.up x h).1.elim .inl (fun h=>absurd h.1 (by omega));exact (S2.out.ut x h).1.elim .inr (fun h=>absurd h.1 (by omega)) }⟩⟩);have HN5:Hid (Z=(Em.Do (Em.aG d) here (r.states.drop (j+1)) (j+1) t5 >>= fun t'=>Em.bS (Em.aG d) r r.order t') k5/\t5.length=n/\∃Pj Tj,Two E ns P T (fun _=>False) kb b w k Pj Tj w5 k5 t5 (c+2000000*(j+1))):=⟨e2.out.trans (bind_some h0.out),by { rw[Qa h0.out];exact HSE.out.2.2 },P5,T5,(S2.out.trans h5).more (by { have:=HCJ.out.1;omega })⟩;clear h0 h5 hgo))
    clear S1 e1 S2 e2
    go_roundg (n-(j+1))
    case measure=>omega
    case rel=>exact ⟨j+1,k5,t5,rfl,by omega,by go_num,HN5.out⟩
  ·obtain rfl:j=n:=by omega
   have S1:Hid (Two E ns P T (fun _=>False) kb b w k Pj Tj wr kj tj (c+2000000*j)):=hT
   have e1:Hid (Z=Em.bS (Em.aG d) r r.order tj kj):=by rw[Hid,hr1,HG.out.2.2.2.2.2.1,List.drop_length];rfl
   have kp:=S1.out.keep HC.out.2.1
   have hea:=sL (n:=j) hE (zW hE d) (HG.out.2.2.2.2.2.2.2.carry kp (eV.carry d kp)) HG.out.2.2.2.2.1 S1.out.cm S1.out.im S1.out.dis (S1.out.roU HC.out.2.1) hr2 HG.out.2.2.2.2.2.1 (by omega)
   clear hr hr1 hr2 hT kp
   go_wp2_with (go_at_call 205;refine hea.mono ?_;rintro e w6 h6;rcases h6 with ⟨rfl,h0,h1⟩|⟨k6,rfl,h0,h1⟩;(· exact ⟨rfl,mU.up S1.out e1.out (.inl ⟨rfl,h0,h1⟩)⟩))
   go_end0
   exact mU.up S1.out e1.out (.inr ⟨k6,rfl,h0,h1⟩)
theorem Qc (hE:E<1000000):∀d,Ll A kb E ns d
 | 0=>fun h=>h.elim
 | d+1=>fun hr hk h hI hd hR hn hc=>Jx hE (Qc hE d) hr hk h hI hd hR hn rfl hc
end
end Ew
end
end Go.Proofs.YtcdbhoknhnimcaaGreatDoor
