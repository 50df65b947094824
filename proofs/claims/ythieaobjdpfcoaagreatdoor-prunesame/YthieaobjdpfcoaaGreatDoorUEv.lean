import Derived.Test.YthieaobjdpfcoaaGreatDoorUEu
set_option maxRecDepth 100000
set_option maxHeartbeats 16000000
namespace Go.Proofs.YthieaobjdpfcoaaGreatDoor
section
open Go.RowKit Px
namespace Ew
open Px.Em (Kd Vr eQ eR jP Rg cX)
open Nx (Nt Sp)
section
variable {P T X P1 T1 A:Nat->Prop}{w wr w2:World}{kb b E c d:Nat}{ns:List bE}{k kj k2:Kd}{t:cX}
theorem Ta (hE:E<1000000) (ih:Nz A kb E ns d) {gS o gd od n:Nat}{s:eR (St d) (Rg d)}{so:Int}(hs:vS A w (fH A d w) gS o s gd od) (hK:B9 ns n (eS ns d) s) (h:eK E ns P w kb k) (hI:xE T w b t c) (hd:∀x,P x->¬T x) (hR:Ro A (fun x=>P x\/T x) w) (hn:t.length=n) (hc:c≤6000000000000) :
    Calls Tryz.prog 162 #[.pointer (some ⟨kb,0,none⟩),.pointer (some ⟨gS,o,none⟩),.int .i64 so,.slice (some ⟨b,0,none⟩) n n] w (dE E ns P T kb b w k (c+1000000+1000000) (Em.eT (Em.aJ d) s so t k)):=by
 obtain ⟨Z,hZ⟩:∃Z,Z=Em.eT (Em.aJ d) s so t k:=⟨_,rfl⟩
 have e1:Hid (Z=(Em.choose (Em.aJ d) s so fA >>= fun c1=>Em.dU so c1.2 >>= fun ef=>Zq s c1 t ef) k):=by rw[Hid,hZ,Ip]
 rw[<-hZ]
 have HH:Hid (vS A w (fH A d w) gS o s gd od/\B9 ns n (eS ns d) s/\Ro A (fun x=>P x\/T x) w/\t.length=n/\Nz A kb E ns d):=⟨hs,hK,hR,hn,ih⟩
 have S1:Hid (Two E ns P T (fun _=>False) kb b w k P T w k t c):=Two.start h hI hd
 have bn:Calls Tryz.prog 202 _ w (zR E ns P A n kb w k (Em.choose (Em.aJ d) s so fA k)):=Uo (so:=so) hE hs hK h (S1.out.ro hR)
 clear h hI hd hR hn hs hK ih hZ
 go_enter Tryz.func162,Tryz.ntmps162
 go_upto_region 1 with (go_at_call 202;refine bn.mono ?_;rintro e w3 (⟨rfl,J,l⟩|⟨Y,ab,k3,am,ao,ap,rfl,J,l⟩);(· exact ⟨rfl,(.inl ⟨rfl,e1.out.trans (aH J.out),S1.out.bad l.out⟩)⟩);have e3:Hid _:=e1.out.trans (bind_some J.out);clear J bn)
 clear e1
 obtain ⟨P3,aw,hex,cy⟩:=S1.out.choose l.out.1 l.out.2.2.1
 have kp:=aw.keep HH.out.2.2.1
 have ay:=HH.out.1.carry kp (fH.carry d kp)
 obtain ⟨vi,q2,ee⟩:=ay.iy
 obtain ⟨ai,gi,ci,rfl,de,cu,cz⟩:=ee
 obtain ⟨M,hM⟩:∃M,M=s.inside.length:=⟨_,rfl⟩
 rw[<-hM] at q2 de cu
 have I:Hid (Two E ns P T (fun _=>False) kb b w k P3 T w3 k3 t c/\qI A w3 (.slice am ao ap) Y/\(∀g,(Value.slice am ao ap).ownBlock=some g->g<w3.heap.size/\¬(P3 g\/T g))/\(∀y∈Y,xK ns n y.1)/\Y.length≤1000000/\vS A w3 (fH A d w3) gS o s gd od/\Ro A (fun x=>P3 x\/T x) w3):=⟨aw,l.out.2.1,fun g U=>⟨by obtain ⟨_,hr,_⟩:=l.out.2.1;exact (hr.lt g U).2,hex g U⟩,l.out.2.2.2.1,l.out.2.2.2.2.2,ay,aw.roU HH.out.2.2.1⟩
 have HI:Hid ((0<M->ai=some ⟨gi,0,none⟩/\A gi)/\(∀j r,s.inside[j]?=some r->∃gr,w3.cell? ⟨gi,j,none⟩=some (.pointer (some ⟨gr,0,none⟩))/\fH A d w3 r gr)/\M=s.inside.length/\w3.cell? ⟨gS,o+2,none⟩=some (.slice ai M ci)/\A gS):=⟨cu,cz,hM,q2,ay.dA.2⟩
 have S3:Hid (Two E ns P3 T (fun _=>False) kb b w3 k3 P3 T w3 k3 t c):=Two.start aw.cm aw.im aw.dis
 have ek:(M:Int)≤1000000:=by have:=HH.out.2.1.il;omega
 have dd:=oL so ab S3.out.cm hE
 clear l aw hex cy kp ay q2 cu cz hM de S1
 go_upto_region 2 with (go_at_call 204;refine dd.mono ?_;rintro e w4 (⟨rfl,J,l⟩|⟨x4,k4,rfl,J,l⟩);(· exact ⟨rfl,dE.up I.out.1 rfl (.inl ⟨rfl,e3.out.trans (aH J.out),S3.out.bad l.out⟩)⟩);obtain ⟨P4,S4⟩:∃P4,Hid (Two E ns P3 T (fun _=>False) kb b w3 k3 P4 T w4 k4 t (c)):=⟨_,S3.out.coder l.out⟩;have e4:Hid _:=e3.out.trans (bind_some J.out);clear J l dd)
 have kp:=S4.out.keep I.out.2.2.2.2.2.2
 have ad:=I.out.2.2.2.2.2.1.carry kp (fH.carry d kp)
 obtain ⟨pr,q6,co⟩:=ad.re
 have q0:=ad.d
 obtain ⟨Br,cv⟩:∃Br,pr.isSome=Br:=⟨_,rfl⟩
 have ed:∀w,(binOp BinOp.neq 220 (.pointer pr) (.pointer none)).run Tryz.prog w=.ok (.bool Br) w:=fun w=>by rw[<-cv];exact Qy pr w
 have dq:Hid (Br=!Em.Er s.drawn.rests):=by rw[Hid,<-cv];exact Hx co
 obtain ⟨B,hB⟩:∃B,B=(Br&&(x4 != -1)):=⟨_,rfl⟩
 have HB:Hid (B=(Br&&(x4 != -1))):=hB
 have ea:Hid (jR A w4 s.drawn.rests (.pointer pr)):=co
 clear kp ad co cv hB S3 e3
 go_cut [38] (fun dx wx=>Hid (dx=.bool B/\wx=w4))
 case first=>
  cases Br with
  | false=>
   go_wp2_with fail
   go_meet
   case rel=>exact ⟨by rw[HB.out];rfl,rfl⟩
  | true=>
   by_cases hx:x4=-1
   ·have t1:(x4 == -1)=true:=by simpa using hx
    have t2:(x4 != -1)=false:=by simp[hx]
    clear hx
    go_wp2_with fail
    go_meet
    case rel=>exact ⟨by rw[HB.out,t2];rfl,rfl⟩
   ·have t1:(x4 == -1)=false:=by simpa using hx
    have t2:(x4 != -1)=true:=by simp[hx]
    clear hx
    go_wp2_with fail
    go_meet
    case rel=>exact ⟨by rw[HB.out,t2];rfl,rfl⟩
 case rest=>
  obtain ⟨eb,dz⟩:=hcut.out
  subst eb
  subst dz
  clear ed
  go_upto_if 38 with fail
  go_cut [10] (fun dt wx=>∃(on:Int) (km:Kd),dt=.int .i64 on/\Hid (Z=gs5 s (Y,ab) t on km/\∃Pm,Two E ns P3 T (fun _=>False) kb b w3 k3 Pm T wx km t c))
  case first=>
   cases B with
   | true=>
    have dn:¬(Em.Er s.drawn.rests=true\/x4=-1):=by
     have l:=HB.out
     rw[dq.out] at l
     rintro (h|h)
     ·rw[h] at l;simp at l
     ·rw[h] at l;simp at l
    have e5:Hid (Z=(Em.eP s.drawn.rests >>= fun x=>Em.bS 0 >>= fun z=>Em.made 17 x z x4 >>= fun on=>gs5 s (Y,ab) t on) k4):=by
     rw[Hid,e4.out]
     show Zq s (Y,ab) t x4 k4=_
     unfold Zq
     rw[if_neg dn]
    have S5:=S4
    have hex:=lN (A:=A) (kb:=kb) (ns:=ns) hE s.drawn.rests HH.out.2.1.re ea.out S5.out.cm (S5.out.ro I.out.2.2.2.2.2.2)
    clear dn e4
    go_wp2_with (first
     | (go_at_call 206;refine hex.mono ?_;rintro e w6 (⟨rfl,J,l⟩|⟨x6,k6,rfl,J,l⟩);(· exact ⟨rfl,dE.up I.out.1 rfl (.inl ⟨rfl,e5.out.trans (aH J.out),S5.out.bad l.out⟩)⟩);obtain ⟨P6,S6⟩:∃P6,Hid (Two E ns P3 T (fun _=>False) kb b w3 k3 P6 T w6 k6 t (c)):=⟨_,S5.out.coder l.out⟩;have e6:Hid _:=e5.out.trans (bind_some J.out);clear J l hex;have ch:=dP (n:=0) S6.out.cm hE jF.zero)
     | (go_at_call 207;refine ch.mono ?_;rintro e w7 (⟨rfl,J,l⟩|⟨x7,k7,rfl,J,l⟩);(· exact ⟨rfl,dE.up I.out.1 rfl (.inl ⟨rfl,e6.out.trans (aH J.out),S6.out.bad l.out⟩)⟩);obtain ⟨P7,S7⟩:∃P7,Hid (Two E ns P3 T (fun _=>False) kb b w3 k3 P7 T w7 k7 t (c)):=⟨_,S6.out.coder l.out⟩;have e7:Hid _:=e6.out.trans (bind_some J.out);clear J l ch;have bh:=gU 17 x6 x7 x4 S7.out.cm hE)
     | (go_at_call 205;refine bh.mono ?_;rintro e w8 (⟨rfl,J,l⟩|⟨x8,k8,rfl,J,l⟩);(· exact ⟨rfl,dE.up I.out.1 rfl (.inl ⟨rfl,e7.out.trans (aH J.out),S7.out.bad l.out⟩)⟩);obtain ⟨P8,S8⟩:∃P8,Hid (Two E ns P3 T (fun _=>False) kb b w3 k3 P8 T w8 k8 t (c)):=⟨_,S7.out.coder l.out⟩;have e8:Hid _:=e7.out.trans (bind_some J.out);clear J l bh))
    go_meet
    case rel=>exact ⟨x8,k8,rfl,e8.out,P8,S8.out⟩
   | false=>
    have cn:Em.Er s.drawn.rests=true\/x4=-1:=by
     have l:=HB.out
     rw[dq.out] at l
     cases h2:Em.Er s.drawn.rests with
     | true=>exact .inl rfl
     | false=>rw[h2] at l;exact .inr (by simpa using l)
    have ba:Hid (Z=gs5 s (Y,ab) t x4 k4/\∃Pm,Two E ns P3 T (fun _=>False) kb b w3 k3 Pm T wc k4 t c):=by
     refine ⟨?_,P4,S4.out⟩
     rw[e4.out]
     show Zq s (Y,ab) t x4 k4=_
     unfold Zq
     rw[if_pos cn]
    clear cn e4 S4
    go_wp2_with fail
    go_meet
    case rel=>exact ⟨x4,k4,rfl,ba.out⟩
  case rest=>
   obtain ⟨on,km,rfl,hc⟩:=hcut
   obtain ⟨dm,Pm,dp⟩:=hc.out
   have S9:Hid (Two E ns P3 T (fun _=>False) kb b w3 k3 Pm T wc km t c):=dp
   have e9:Hid (Z=(Em.vM on s.drawn.during >>= fun _=>Em.pZ (Em.aJ d) on s.inside >>= fun _=>Em.choose (Em.aJ d) s on fB >>= fun c2=>Oc s (Y,ab) c2 t) km):=dm
   have kp:=S9.out.keep I.out.2.2.2.2.2.2
   have ad:=I.out.2.2.2.2.2.1.carry kp (fH.carry d kp)
   obtain ⟨vd,q4,ct⟩:=ad.du
   have r0:=ad.d
   have bu:=vL (so:=on) HH.out.2.1.du ct S9.out.cm (S9.out.ro I.out.2.2.2.2.2.2) hE
   obtain ⟨va,vn,vc,rfl⟩:=ct.sl'
   clear hc dm dp kp ad ct S4 e4
   go_upto_region 5 with (go_at_call 208;refine bu.mono ?_;rintro e dh (⟨rfl,J,l⟩|⟨_,cg,rfl,J,l⟩);(· exact ⟨rfl,dE.up I.out.1 rfl (.inl ⟨rfl,e9.out.trans (aH J.out),S9.out.bad l.out⟩)⟩);obtain ⟨cp,cq⟩:∃cp,Hid (Two E ns P3 T (fun _=>False) kb b w3 k3 cp T dh cg t (c)):=⟨_,S9.out.coder l.out⟩;have e10:Hid _:=e9.out.trans (bind_some J.out);clear J l bu)
   obtain ⟨D,hD⟩:∃D:Unit->Em.M cX,D=fun _=>Em.choose (Em.aJ d) s on fB >>= fun c2=>Oc s (Y,ab) c2 t:=⟨_,rfl⟩
   have HD:Hid (D=fun _=>Em.choose (Em.aJ d) s on fB >>= fun c2=>Oc s (Y,ab) c2 t):=hD
   have q2:=cL (cq.out.keep I.out.2.2.2.2.2.2) HI.out.2.2.2.2 HI.out.2.2.2.1
   have dk:Hid (Z=(Em.pZ (Em.aJ d) on (s.inside.drop 0) >>= D) cg/\∃Pj,Two E ns P3 T (fun _=>False) kb b w3 k3 Pj T dh cg t c):=⟨by rw[hD];exact e10.out,cp,cq.out⟩
   clear hD S9 e9 cq e10 q4 r0
   go_wp2_with fail
   clear q2
   go_loopg [69] M (fun f i wr=>∃(j:Nat) (kj:Kd),f=M-j/\j≤M/\i=.int .i64 (j:Int)/\Hid (Z=(Em.pZ (Em.aJ d) on (s.inside.drop j) >>= D) kj/\∃Pj,Two E ns P3 T (fun _=>False) kb b w3 k3 Pj T wr kj t c))
   case atStart=>exact ⟨0,cg,by omega,by omega,rfl,dk.out⟩
   case round=>
    obtain ⟨j,kj,rfl,hj,rfl,hr⟩:=hrel
    obtain ⟨ar,P0,hT⟩:=hr.out
    by_cases hlt:j<M
    ·obtain ⟨r,bb⟩:∃r:Rg d,s.inside[j]?=some r:=⟨s.inside[j]'(by rw[<-HI.out.2.2.1];exact hlt),aE5 _⟩
     obtain ⟨gr,c0,au⟩:=HI.out.2.1 j r bb
     have kp:=hT.keep I.out.2.2.2.2.2.2
     have dy:=Xp ai gi M ci j hlt (fun Q=>(HI.out.1 Q).1)
     have c0:=cL kp (HI.out.1 (by omega)).2 c0
     have au:=fH.carry d kp _ _ au
     have bq:=HH.out.2.1.sub r (aH8 bb)
     obtain ⟨cb,cd,ax,vo,fi,lv,an,hsz⟩:=fH.cells d au bq
     obtain ⟨id,hid⟩:∃id,id=(Em.aJ d).idle r:=⟨_,rfl⟩
     obtain ⟨nn,bc⟩:∃nn,nn=(Em.aJ d).size r:=⟨_,rfl⟩
     obtain ⟨th,bw⟩:∃th,th=(Em.aJ d).there r:=⟨_,rfl⟩
     rw[<-hid,<-bc,<-bw] at an
     have g4:=aA an 4 (u:=.bool id) rfl
     rw[dT bb] at ar
     by_cases hskip:on=-1\/id=true
     ·have ba:Hid (Z=(Em.pZ (Em.aJ d) on (s.inside.drop (j+1)) >>= D) kj/\∃Pj,Two E ns P3 T (fun _=>False) kb b w3 k3 Pj T wr kj t c):=⟨ar.trans (eH (m':=Em.pZ (Em.aJ d) on (s.inside.drop (j+1))) (Ml (by rw[<-hid];exact hskip))),P0,hT⟩
      by_cases ak:on=-1
      ·have t1:(on == -1)=true:=by simpa using ak
       have t2:(on != -1)=false:=by simp[ak]
       clear hr ar hT kp au bq an hid bc bw hskip ak bb cb
       go_wp2_with fail
       go_roundg (M-(j+1))
       case measure=>omega
       case rel=>exact ⟨j+1,kj,rfl,by omega,by go_num,ba.out⟩
      ·have t1:(on == -1)=false:=by simpa using ak
       have t2:(on != -1)=true:=by simp[ak]
       obtain rfl:id=true:=by rcases hskip with h|h;exact absurd h ak;exact h
       clear hr ar hT kp au bq an hid bc bw hskip ak bb cb
       go_wp2_with fail
       go_roundg (M-(j+1))
       case measure=>omega
       case rel=>exact ⟨j+1,kj,rfl,by omega,by go_num,ba.out⟩
     ·have ak:¬on=-1:=fun h=>hskip (.inl h)
      have t1:(on == -1)=false:=by simpa using ak
      have t2:(on != -1)=true:=by simp[ak]
      obtain rfl:id=false:=by cases id;rfl;exact absurd (.inr rfl) hskip
      have g0:=aA an 0 (u:=.slice cd nn ax) rfl
      have g3:=aA an 3 (u:=.int .i64 th) rfl
      have eg:∀ob,(wr.alloc ob).cell? ⟨gr,3,none⟩=some (.int .i64 th):=fun ob=>aN (aC wr ob) g3
      have e10:Hid (Z=(Em.given on th >>= fun h=>(Em.aJ d).goOn r h (List.replicate ((Em.aJ d).size r) []) >>= fun _=>Em.pZ (Em.aJ d) on (s.inside.drop (j+1)) >>= D) kj):=by
       rw[Hid,bw]
       refine ar.trans ((eH (Ya (by rw[<-hid];exact hskip))).trans ?_)
       simp only[pA]
      have en:∀W,(Instr.makeSlice 190 (.int .i64 (nn:Int)) (.int .i64 (nn:Int))).run Tryz.prog W=.ok (.slice (some ⟨W.heap.size,0,none⟩) nn nn) (W.alloc (.cells (List.replicate nn (Value.slice none 0 0)).toArray 238)):=fun W=>Rh W nn (by rw[bc];exact hsz)
      have cw:=hT.ro I.out.2.2.2.2.2.2
      have ds:∀W,Below wr.heap.size wr W->Calls Tryz.prog 209 #[.pointer (some ⟨kb,0,none⟩),.int .i64 on,.int .i64 th] W (fJ E ns P0 kb W kj (Em.given on th kj) (Value.int .i64)):=fun W hb=>vH on th (hT.cm.below hb) hE
      have HG:Hid (Two E ns P3 T (fun _=>False) kb b w3 k3 P0 T wr kj t c/\wr.heap[gr]?=some (.cells #[.slice cd nn ax,vo,.int .i64 fi,.int .i64 th,.bool false,.bool lv] 188 (0,0))/\(∀x,P0 x->x<wr.heap.size)/\Ro A P0 wr/\fH A d wr r gr/\eS ns d r/\¬P0 gr):=⟨hT,an,hT.cm.2.2,cw,au,bq,(cw gr cb).2⟩
      have bv:Below wr.heap.size wr wr.drew:=⟨rfl,rfl,rfl,aF4 _,fun _ _=>rfl⟩
      have ca:∀ob,Below wr.heap.size wr (wr.drew.alloc ob):=fun ob=>aQ bv (aC wr.drew ob)
      have ce:∀ob,Below wr.heap.size wr (wr.alloc ob).drew:=fun ob=>(aC wr ob).drew
      have eh:Hid (nn=(Em.aJ d).size r):=bc
      have dl:Hid (∀ob,(wr.drew.alloc ob).heap.size=wr.heap.size+1/\(wr.alloc ob).drew.heap.size=wr.heap.size+1):=fun ob=>⟨by simp,by simp⟩
      clear hr ar hT kp au bq an hid bw hskip ak bb cb cw
      subst bc
      go_upto_region 9 with fail
      clear t1 t2 g4 dy c0
      go_region_law (first
       | (go_simp;go_at_call 209;refine (ds _ (by first|exact bv|exact ca _|exact ce _)).mono ?_;rintro e ah (⟨rfl,J,l⟩|⟨x11,da,rfl,J,l⟩);(· exact ⟨rfl,dE.up I.out.1 rfl (.inl ⟨rfl,e10.out.trans (aH J.out),HG.out.1.bad ((bM.of_below (by first|exact bv|exact ca _|exact ce _)).trans l.out fun _ _ h=>h)⟩)⟩)
          have e11:Hid _:=e10.out.trans (bind_some J.out)
          have di:ah.heap[gr]?=some (.cells #[.slice cd ((Em.aJ d).size r) ax,vo,.int .i64 fi,.int .i64 th,.bool false,.bool lv] 188 (0,0)):=l.out.2.1.heap (by first|exact aD bv HG.out.2.1|exact aD (ca _) HG.out.2.1|exact aD (ce _) HG.out.2.1) HG.out.2.2.2.2.2.2
          have z0:=aA di 0 (u:=.slice cd ((Em.aJ d).size r) ax) rfl
          first
           | (have cc:=zB (here:=x11) (b':=wr.heap.size) HH.out.2.2.2.2 HG.out.2.2.1 (ca _) l.out (Below.refl _ _) ⟨aF4 _,fun hu=>hu.elim (fun h=>absurd (HG.out.2.2.1 _ h) (by omega)) fun h=>absurd h.1 (by rw[(dl.out _).1];omega)⟩ (l.out.2.1.heap (aX wr.drew _) (fun h=>absurd (HG.out.2.2.1 _ h) (Nat.lt_irrefl _))) HG.out.2.2.2.1 HG.out.2.2.2.2.1 HG.out.2.2.2.2.2.1)
           | (have cc:=zB (here:=x11) (b':=wr.heap.size) HH.out.2.2.2.2 HG.out.2.2.1 (ce _) l.out (Below.refl _ _) ⟨aF4 _,fun hu=>hu.elim (fun h=>absurd (HG.out.2.2.1 _ h) (by omega)) fun h=>absurd h.1 (by rw[(dl.out _).2];omega)⟩ (l.out.2.1.heap (show (wr.alloc _).drew.heap[wr.heap.size]?=_ from aX wr _) (fun h=>absurd (HG.out.2.2.1 _ h) (Nat.lt_irrefl _))) HG.out.2.2.2.1 HG.out.2.2.2.2.1 HG.out.2.2.2.2.2.1)
           | (have cc:=zB (here:=x11) (b':=ah.heap.size) (W':=ah.alloc (.cells (Array.replicate ((Em.aJ d).size r) (Value.slice none 0 0)) 238)) HH.out.2.2.2.2 HG.out.2.2.1 bv l.out (aC _ _) ⟨l.out.2.1.size,fun hu=>absurd (l.out.1.2.2 _ hu) (Nat.lt_irrefl _)⟩ (aX _ _) HG.out.2.2.2.1 HG.out.2.2.2.2.1 HG.out.2.2.2.2.2.1)
          clear J l di)
       | (go_simp;go_at_call 118;refine cc.mono ?_;rintro e dj ec;rcases ec with ⟨rfl,J,l⟩|⟨k12,rfl,J,l⟩;(· exact ⟨rfl,dE.up I.out.1 rfl (.inl ⟨rfl,e11.out.trans (aH J.out),HG.out.1.bad l.out⟩)⟩);obtain ⟨cx,db⟩:∃cx,Hid (Two E ns P3 T (fun _=>False) kb b w3 k3 cx T dj k12 t c):=⟨_,HG.out.1.coder l.out⟩;have e12:Hid _:=e11.out.trans (bind_some J.out);clear J l cc))
      all_goals
       have ba:Hid (Z=(Em.pZ (Em.aJ d) on (s.inside.drop (j+1)) >>= D) k12/\∃Pj,Two E ns P3 T (fun _=>False) kb b w3 k3 Pj T dj k12 t c):=⟨e12.out,cx,db.out⟩
       clear e10 e11 e12 db HG
       go_wp2_with fail
       go_roundg (M-(j+1))
       case measure=>omega
       case rel=>exact ⟨j+1,k12,rfl,by omega,by go_num,ba.out⟩
    ·obtain rfl:j=M:=by omega
     have S5:Hid (Two E ns P3 T (fun _=>False) kb b w3 k3 P0 T wr kj t c):=hT
     have e5:Hid (Z=(Em.choose (Em.aJ d) s on fB >>= fun c2=>Oc s (Y,ab) c2 t) kj):=by
      rw[Hid,ar,HD.out,HI.out.2.2.1,aK8];rfl
     have kp:=hT.keep I.out.2.2.2.2.2.2
     have bn:Calls Tryz.prog 202 _ wr (zR E ns P0 A n kb wr kj (Em.choose (Em.aJ d) s on fB kj)):=Un (so:=on) hE (I.out.2.2.2.2.2.1.carry kp (fH.carry d kp)) HH.out.2.1 S5.out.cm (S5.out.ro I.out.2.2.2.2.2.2)
     clear hr ar hT kp dk
     go_upto_region 12 with (go_at_call 202;refine bn.mono ?_;rintro e w6 (⟨rfl,J,l⟩|⟨ag,cf,k6,ac,aa,ae,rfl,J,l⟩);(· exact ⟨rfl,dE.up I.out.1 rfl (.inl ⟨rfl,e5.out.trans (aH J.out),S5.out.bad l.out⟩)⟩);have e6:Hid _:=e5.out.trans (bind_some J.out);clear J bn)
     obtain ⟨P6,al,hex,cy⟩:=S5.out.choose l.out.1 l.out.2.2.1
     have kp:=al.keep I.out.2.2.2.2.2.2
     have az:=I.out.2.2.2.2.2.1.carry kp (fH.carry d kp)
     have O:Hid (Two E ns P3 T (fun _=>False) kb b w3 k3 P6 T w6 k6 t c/\qI A w6 (.slice ac aa ae) ag/\(∀g,(Value.slice ac aa ae).ownBlock=some g->g<w6.heap.size/\¬(P6 g\/T g))/\(∀y∈ag,xK ns n y.1)/\ag.length≤1000000/\qI A w6 (.slice am ao ap) Y/\(∀g,(Value.slice am ao ap).ownBlock=some g->g<w6.heap.size/\¬(P6 g\/T g))/\vS A w6 (fH A d w6) gS o s gd od/\Ro A (fun x=>P6 x\/T x) w6):=by
      refine ⟨al,l.out.2.1,fun g U=>⟨by obtain ⟨_,hr,_⟩:=l.out.2.1;exact (hr.lt g U).2,hex g U⟩,l.out.2.2.2.1,l.out.2.2.2.2.2,I.out.2.1.keep kp (fun g U=>al.fr.block g (I.out.2.2.1 g U).1 (I.out.2.2.1 g U).2),fun g U=>⟨aH3 (I.out.2.2.1 g U).1 al.fr.size,fun Q=>?_⟩,az,al.roU I.out.2.2.2.2.2.2⟩
      have hq:=I.out.2.2.1 g U
      rcases Q with Q|Q
      ·exact (al.up g Q).1.elim (fun h=>hq.2 (.inl h)) fun h=>absurd h.1 (by omega)
      ·exact hq.2 (.inr Q)
     have S6:Hid (Two E ns P6 T (fun _=>False) kb b w6 k6 P6 T w6 k6 t c):=Two.start al.cm al.im al.dis
     have q4:=az.leaves
     obtain ⟨lv,bi⟩:∃lv,lv=s.leaves:=⟨_,rfl⟩
     rw[<-bi] at q4
     have dr:Hid True:=trivial
     clear l al hex cy kp S5 e5
     cases lv with
     | false=>
      have e7:Hid (Z=(Em.take Y t >>= fun t'=>Em.take ag t') k6):=by
       rw[Hid,e6.out]
       show Oc s (Y,ab) (ag,cf) t k6=_
       unfold Oc
       rw[<-bi,if_neg (by simp)]
       rfl
      have S7:=S6
      clear e6 bi az S6
      have ks:=S7.out.keep O.out.2.2.2.2.2.2.2.2
      have bo:qI A w6 (.slice am ao ap) Y:=O.out.2.2.2.2.2.1.keep ks fun g U=>S7.out.fr.block g (O.out.2.2.2.2.2.2.1 g U).1 (O.out.2.2.2.2.2.2.1 g U).2
      have bj:qI A w6 (.slice ac aa ae) ag:=O.out.2.1.keep ks fun g U=>S7.out.fr.block g (O.out.2.2.1 g U).1 (O.out.2.2.1 g U).2
      have hx1:∀g,(Value.slice am ao ap).ownBlock=some g->¬(P6 g\/T g):=fun g U Q=>by
       have hq:=O.out.2.2.2.2.2.2.1 g U
       rcases Q with Q|Q
       ·exact (S7.out.up g Q).1.elim (fun h=>hq.2 (.inl h)) fun h=>absurd h.1 (by omega)
       ·exact hq.2 (.inr Q)
      have bz:∀g,(Value.slice ac aa ae).ownBlock=some g->¬(P6 g\/T g)/\g<w6.heap.size:=fun g U=>by
       have hq:=O.out.2.2.1 g U
       refine ⟨fun Q=>?_,aH3 hq.1 S7.out.fr.size⟩
       rcases Q with Q|Q
       ·exact (S7.out.up g Q).1.elim (fun h=>hq.2 (.inl h)) fun h=>absurd h.1 (by omega)
       ·exact hq.2 (.inr Q)
      have av:=S7.out.roU O.out.2.2.2.2.2.2.2.2
      have bm:=dS (n:=n) hE bo hx1 I.out.2.2.2.1 HH.out.2.2.2.1 I.out.2.2.2.2.1 S7.out.cm S7.out.im S7.out.dis av (by omega)
      have HT:Hid (qI A w6 (.slice ac aa ae) ag/\(∀g,(Value.slice ac aa ae).ownBlock=some g->¬(P6 g\/T g)/\g<w6.heap.size)/\Ro A (fun x=>P6 x\/T x) w6):=⟨bj,bz,av⟩
      clear ks bo bj hx1 bz av
      go_wp2_with (first
       | (clear dr;go_at_call 213;refine bm.mono ?_;rintro e bf (⟨rfl,J,l⟩|⟨t7,k7,rfl,J,P7,T7,h7⟩);(· exact ⟨rfl,dE.up I.out.1 rfl (dE.up O.out.1 rfl (dE.up S7.out e7.out (.inl ⟨rfl,aH J.out,l⟩)))⟩);have H7:Hid _:=h7;have E7:Hid _:=J.out;have kq:bB A A w6 bf:=h7.keep HT.out.2.2;have bp:qI A bf (.slice ac aa ae) ag:=HT.out.1.keep kq (fun g U=>h7.fr.block g (HT.out.2.1 g U).2 (HT.out.2.1 g U).1);have bk:∀g,(Value.slice ac aa ae).ownBlock=some g->¬(P7 g\/T7 g):=(fun g U Q=>by { have hq:=HT.out.2.1 g U;rcases Q with Q|Q;exact (h7.up g Q).1.elim (fun h=>hq.1 (.inl h)) (fun h=>absurd h.1 (by omega));exact (h7.ut g Q).1.elim (fun h=>hq.1 (.inr h)) (fun h=>absurd h.1 (by omega)) });have br:=dS (n:=n) hE bp bk O.out.2.2.2.1 (by rw[jX J.out];exact HH.out.2.2.2.1) O.out.2.2.2.2.1 h7.cm h7.im h7.dis (h7.roU HT.out.2.2) (by omega);clear J h7 kq bp bk bm)
       | (go_at_call 213;refine br.mono ?_;rintro e dw h8;rcases h8 with ⟨rfl,J,l⟩|⟨t8,k8,rfl,J,l⟩;(· exact ⟨rfl,dE.up I.out.1 rfl (dE.up O.out.1 rfl (dE.up S7.out e7.out (dE.up H7.out (bind_some E7.out) (.inl ⟨rfl,J,l⟩))))⟩)))
      go_end0
      exact dE.up I.out.1 rfl (dE.up O.out.1 rfl (dE.up S7.out e7.out (dE.up H7.out (bind_some E7.out) (.inr ⟨t8,k8,rfl,J,l⟩))))
     | true=>
      have e7:Hid (Z=(Em.uZ ab cf >>= fun gone=>Em.dI (Em.aJ d) s.inside gone >>= fun _=>Em.vM gone s.drawn.leave >>= fun _=>Em.take Y t >>= fun t'=>Em.take ag t') k6):=by
       rw[Hid,e6.out]
       show Oc s (Y,ab) (ag,cf) t k6=_
       unfold Oc
       rw[<-bi,if_pos rfl]
       rfl
      have S7:=S6
      have df:=pS ab cf S7.out.cm hE
      clear e6 bi az S6
      go_upto_region 14 with (go_at_call 211;refine df.mono ?_;rintro e w8 (⟨rfl,J,l⟩|⟨x8,k8,rfl,J,l⟩);(· exact ⟨rfl,dE.up I.out.1 rfl (dE.up O.out.1 rfl (.inl ⟨rfl,e7.out.trans (aH J.out),S7.out.bad l.out⟩))⟩);obtain ⟨P8,S8⟩:∃P8,Hid (Two E ns P6 T (fun _=>False) kb b w6 k6 P8 T w8 k8 t (c)):=⟨_,S7.out.coder l.out⟩;have e8:Hid _:=e7.out.trans (bind_some J.out);clear J l df)
      clear S7 e7 q4
      have kp:=S8.out.keep O.out.2.2.2.2.2.2.2.2
      have ad:=O.out.2.2.2.2.2.2.2.1.carry kp (fH.carry d kp)
      obtain ⟨vj,q2,dc⟩:=ad.iy
      have ck:=rY hE d (so:=x8) dc HH.out.2.1.sub S8.out.cm (S8.out.ro O.out.2.2.2.2.2.2.2.2)
      obtain ⟨aj,gj,cj,rfl,_⟩:=dc
      clear kp ad
      go_upto_region 15 with (go_at_call 212;refine ck.mono ?_;rintro e w9 (⟨rfl,J,l⟩|⟨_,k9,rfl,J,l⟩);(· exact ⟨rfl,dE.up I.out.1 rfl (dE.up O.out.1 rfl (.inl ⟨rfl,e8.out.trans (aH J.out),S8.out.bad l.out⟩))⟩);obtain ⟨P9,S9⟩:∃P9,Hid (Two E ns P6 T (fun _=>False) kb b w6 k6 P9 T w9 k9 t (c)):=⟨_,S8.out.coder l.out⟩;have e9:Hid _:=e8.out.trans (bind_some J.out);clear J l ck)
      clear S8 e8 q2
      have kp:=S9.out.keep O.out.2.2.2.2.2.2.2.2
      have ad:=O.out.2.2.2.2.2.2.2.1.carry kp (fH.carry d kp)
      obtain ⟨vl,q5,cr⟩:=ad.le
      have r0:=ad.d
      have bu:=vL (so:=x8) HH.out.2.1.le cr S9.out.cm (S9.out.ro O.out.2.2.2.2.2.2.2.2) hE
      obtain ⟨ei,em,ej,rfl⟩:=cr.sl'
      clear kp ad cr
      go_upto_region 16 with (go_at_call 208;refine bu.mono ?_;rintro e ah (⟨rfl,J,l⟩|⟨_,da,rfl,J,l⟩);(· exact ⟨rfl,dE.up I.out.1 rfl (dE.up O.out.1 rfl (.inl ⟨rfl,e9.out.trans (aH J.out),S9.out.bad l.out⟩))⟩);obtain ⟨be,af⟩:∃be,Hid (Two E ns P6 T (fun _=>False) kb b w6 k6 be T ah da t (c)):=⟨_,S9.out.coder l.out⟩;have e11:Hid _:=e9.out.trans (bind_some J.out);clear J l bu)
      clear S9 e9 q5 r0
      have ks:=af.out.keep O.out.2.2.2.2.2.2.2.2
      have bo:qI A ah (.slice am ao ap) Y:=O.out.2.2.2.2.2.1.keep ks fun g U=>af.out.fr.block g (O.out.2.2.2.2.2.2.1 g U).1 (O.out.2.2.2.2.2.2.1 g U).2
      have bj:qI A ah (.slice ac aa ae) ag:=O.out.2.1.keep ks fun g U=>af.out.fr.block g (O.out.2.2.1 g U).1 (O.out.2.2.1 g U).2
      have hx1:∀g,(Value.slice am ao ap).ownBlock=some g->¬(be g\/T g):=fun g U Q=>by
       have hq:=O.out.2.2.2.2.2.2.1 g U
       rcases Q with Q|Q
       ·exact (af.out.up g Q).1.elim (fun h=>hq.2 (.inl h)) fun h=>absurd h.1 (by omega)
       ·exact hq.2 (.inr Q)
      have bz:∀g,(Value.slice ac aa ae).ownBlock=some g->¬(be g\/T g)/\g<ah.heap.size:=fun g U=>by
       have hq:=O.out.2.2.1 g U
       refine ⟨fun Q=>?_,aH3 hq.1 af.out.fr.size⟩
       rcases Q with Q|Q
       ·exact (af.out.up g Q).1.elim (fun h=>hq.2 (.inl h)) fun h=>absurd h.1 (by omega)
       ·exact hq.2 (.inr Q)
      have av:=af.out.roU O.out.2.2.2.2.2.2.2.2
      have bm:=dS (n:=n) hE bo hx1 I.out.2.2.2.1 HH.out.2.2.2.1 I.out.2.2.2.2.1 af.out.cm af.out.im af.out.dis av (by omega)
      have HT:Hid (qI A ah (.slice ac aa ae) ag/\(∀g,(Value.slice ac aa ae).ownBlock=some g->¬(be g\/T g)/\g<ah.heap.size)/\Ro A (fun x=>be x\/T x) ah):=⟨bj,bz,av⟩
      clear ks bo bj hx1 bz av
      go_wp2_with (first
       | (clear dr;go_at_call 213;refine bm.mono ?_;rintro e bf (⟨rfl,J,l⟩|⟨t7,k7,rfl,J,P7,T7,h7⟩);(· exact ⟨rfl,dE.up I.out.1 rfl (dE.up O.out.1 rfl (dE.up af.out e11.out (.inl ⟨rfl,aH J.out,l⟩)))⟩);have H7:Hid _:=h7;have E7:Hid _:=J.out;have kq:bB A A ah bf:=h7.keep HT.out.2.2;have bp:qI A bf (.slice ac aa ae) ag:=HT.out.1.keep kq (fun g U=>h7.fr.block g (HT.out.2.1 g U).2 (HT.out.2.1 g U).1);have bk:∀g,(Value.slice ac aa ae).ownBlock=some g->¬(P7 g\/T7 g):=(fun g U Q=>by { have hq:=HT.out.2.1 g U;rcases Q with Q|Q;exact (h7.up g Q).1.elim (fun h=>hq.1 (.inl h)) (fun h=>absurd h.1 (by omega));exact (h7.ut g Q).1.elim (fun h=>hq.1 (.inr h)) (fun h=>absurd h.1 (by omega)) });have br:=dS (n:=n) hE bp bk O.out.2.2.2.1 (by rw[jX J.out];exact HH.out.2.2.2.1) O.out.2.2.2.2.1 h7.cm h7.im h7.dis (h7.roU HT.out.2.2) (by omega);clear J h7 kq bp bk bm)
       | (go_at_call 213;refine br.mono ?_;rintro e dw h8;rcases h8 with ⟨rfl,J,l⟩|⟨t8,k8,rfl,J,l⟩;(· exact ⟨rfl,dE.up I.out.1 rfl (dE.up O.out.1 rfl (dE.up af.out e11.out (dE.up H7.out (bind_some E7.out) (.inl ⟨rfl,J,l⟩))))⟩)))
      go_end0
      exact dE.up I.out.1 rfl (dE.up O.out.1 rfl (dE.up af.out e11.out (dE.up H7.out (bind_some E7.out) (.inr ⟨t8,k8,rfl,J,l⟩))))
end
end Ew
end
section
open Go.RowKit Px
namespace Ew
open Px.Em (Kd Vr eQ eR jP Rg cX)
open Nx (Nt Sp)
section
variable {P T X P1 T1 A:Nat->Prop}{w wr w2:World}{kb b E c d:Nat}{ns:List bE}{k kj k2:Kd}{t:cX}
theorem Sz {s:eR (St d) (Rg d)}{so:Int}{j:cX}{l:Kd}(h:Em.eT (Em.aJ d) s so t k=some (j,l)):j.length=t.length:=by
 rw[Ip] at h
 obtain ⟨c1,J,_,h⟩:=cV h
 obtain ⟨on,O,_,h⟩:=cV h
 have r:∀{c2:List (eQ×Int)×Int}{k:Kd},Zs c1 c2 t k=some (j,l)->j.length=t.length:=fun {c2 k} h=>by
  obtain ⟨I,D,n,u⟩:=cV h
  rw[jX u,jX n]
 have y:∀{c2:List (eQ×Int)×Int}{k:Kd},Oc s c1 c2 t k=some (j,l)->j.length=t.length:=fun {c2 k} h=>by
  unfold Oc at h
  split at h
  ·obtain ⟨_,_,_,h⟩:=cV h
   obtain ⟨_,_,_,h⟩:=cV h
   obtain ⟨_,_,_,h⟩:=cV h
   exact r h
  ·exact r h
 have n:∀{on:Int}{k:Kd},gs5 s c1 t on k=some (j,l)->j.length=t.length:=fun {bk k} h=>by
  obtain ⟨_,_,_,h⟩:=cV h
  obtain ⟨_,_,_,h⟩:=cV h
  obtain ⟨_,_,_,h⟩:=cV h
  exact y h
 unfold Zq at h
 split at h
 ·exact n h
 ·obtain ⟨_,_,_,h⟩:=cV h
  obtain ⟨_,_,_,h⟩:=cV h
  obtain ⟨_,_,_,h⟩:=cV h
  exact n h
theorem Tc {here:Int}{s:eR (St d) (Rg d)}{l:List (eR (St d) (Rg d))}{i:Nat}(h:s.idle=true):Em.Gb (Em.aJ d) here (s::l) i t k=Em.Gb (Em.aJ d) here l (i+1) t k:=by rw[Em.Gb,if_pos h]
theorem aE6 {here:Int}{s:eR (St d) (Rg d)}{l:List (eR (St d) (Rg d))}{i:Nat}(h:s.idle=false):Em.Gb (Em.aJ d) here (s::l) i t k=(Em.is here i >>= fun so=>Em.eT (Em.aJ d) s so t >>= fun t'=>Em.Gb (Em.aJ d) here l (i+1) t') k:=by rw[Em.Gb,if_neg (by rw[h];simp)]
theorem Mk (hE:E<1000000) (ih:Nz A kb E ns d) {r:jP (St d) (Rg d)}{g n:Nat}{here:Int}(hr:Nu A w (fH A d w) r g) (hk:Od ns (eS ns d) r) (h:eK E ns P w kb k) (hI:xE T w b t c) (hd:∀x,P x->¬T x) (hR:Ro A (fun x=>P x\/T x) w) (hn:t.length=n) (ad:n=r.states.length) (hc:c≤2000000) :
    Calls Tryz.prog 118 #[.pointer (some ⟨kb,0,none⟩),.pointer (some ⟨g,0,none⟩),.int .i64 here,.slice (some ⟨b,0,none⟩) n n] w (nK E ns P T kb w k (Em.goOn (Em.aJ d) r here t k)):=by
 obtain ⟨Z,hZ⟩:∃Z,Z=Em.goOn (Em.aJ d) r here t k:=⟨_,rfl⟩
 have HZ:Hid (Z=(Em.Gb (Em.aJ d) here r.states 0 t >>= fun Y=>Em.cA (Em.aJ d) r r.order Y) k):=hZ
 rw[<-hZ]
 have hr0:=hr
 obtain ⟨gS,aS,cS,vo,hg,ah,hS,aj,hst⟩:=hr
 rw[<-ad] at hg hS
 have g0:=aA hg 0 (u:=.slice aS n cS) rfl
 have Q:Hid (w.heap[g]?=some (.cells #[.slice aS n cS,vo,.int .i64 r.first,.int .i64 r.there,.bool r.idle,.bool r.leaves] 188 (0,0))/\A g/\(0<n->aS=some ⟨gS,0,none⟩/\A gS)/\(∀i s,r.states[i]?=some s->∃gd od,vS A w (fH A d w) gS (i*5) s gd od)/\Od ns (eS ns d) r/\n=r.states.length/\n≤1000000/\Nu A w (fH A d w) r g):=⟨hg,ah,hS,hst,hk,ad,by rw[ad];exact hk.n,hr0⟩
 have HC:Hid (Two E ns P T (fun _=>False) kb b w k P T w k t c/\Ro A (fun x=>P x\/T x) w/\t.length=n/\Nz A kb E ns d):=⟨Two.start h hI hd,hR,hn,ih⟩
 have ar:(n:Int)≤1000000:=by have:=hk.n;omega
 clear h hI hd hR hn ad ih hk hg ah hS aj hst hZ hr0
 go_enter Tryz.func118,Tryz.ntmps118
 go_wp2_with fail
 clear g0
 go_loopg [15] n (fun f i wr=>∃(j:Nat) (kj:Kd) (D:cX),f=n-j/\j≤n/\i=.int .i64 (j:Int)/\Hid (Z=(Em.Gb (Em.aJ d) here (r.states.drop j) j D >>= fun Y=>Em.cA (Em.aJ d) r r.order Y) kj/\D.length=n/\∃Pj Tj,Two E ns P T (fun _=>False) kb b w k Pj Tj wr kj D (c+2000000*j)))
 case atStart=>exact ⟨0,k,t,by omega,by omega,rfl,HZ.out,HC.out.2.2.1,P,T,HC.out.1⟩
 case round=>
  obtain ⟨j,kj,D,rfl,hj,rfl,hr⟩:=hrel
  obtain ⟨y,O,Pj,Tj,hT⟩:=hr.out
  by_cases hlt:j<n
  ·obtain ⟨s,hs⟩:∃s:eR (St d) (Rg d),r.states[j]?=some s:=⟨_,aE5 (by rw[<-Q.out.2.2.2.2.2.1];exact hlt)⟩
   obtain ⟨gd,od,l⟩:=Q.out.2.2.2.1 j s hs
   have J:=hT.keep HC.out.2.1
   have aa:=l.carry J (fH.carry d J)
   have af:=lA J Q.out.2.1 Q.out.1
   have g0:=aA af 0 (u:=.slice aS n cS) rfl
   have ao:=Se aS gS n cS j hlt (fun hp=>(Q.out.2.2.1 hp).1)
   have ac:=Q.out.2.2.2.2.1.st s (aH8 hs)
   rw[<-Q.out.2.2.2.2.2.1] at ac
   obtain ⟨oS,ae⟩:∃oS,oS=j*5:=⟨_,rfl⟩
   rw[<-ae] at aa l ao
   obtain ⟨id,hid⟩:∃id,id=s.idle:=⟨_,rfl⟩
   have q3:=aa.idle
   rw[<-hid] at q3
   rw[dT hs] at y
   cases id with
   | true=>
    have am:Hid (Z=(Em.Gb (Em.aJ d) here (r.states.drop (j+1)) (j+1) D >>= fun Y=>Em.cA (Em.aJ d) r r.order Y) kj/\D.length=n/\∃Pj Tj,Two E ns P T (fun _=>False) kb b w k Pj Tj wr kj D (c+2000000*(j+1))):=⟨y.trans (eH (m':=Em.Gb (Em.aJ d) here (r.states.drop (j+1)) (j+1) D) (Tc hid.symm)),O,Pj,Tj,hT.more (by omega)⟩
    clear hr y O hT J aa l af ac ae hid hs
    go_wp2_with fail
    go_roundg (n-(j+1))
    case measure=>omega
    case rel=>exact ⟨j+1,kj,D,rfl,by omega,by go_num,am.out⟩
   | false=>
    obtain ⟨cj,ag⟩:∃cj,cj=c+2000000*j:=⟨_,rfl⟩
    have al:Hid (cj=c+2000000*j/\cj≤6000000000000):=⟨ag,by have:=Q.out.2.2.2.2.2.2.1;omega⟩
    rw[<-ag] at hT
    have U:Hid (Two E ns P T (fun _=>False) kb b w k Pj Tj wr kj D cj):=hT
    have ai:=Q8 here j (by omega) hT.cm hE
    have e1:Hid (Z=(Em.is here j >>= fun so=>Em.eT (Em.aJ d) s so D >>= fun Y=>Em.Gb (Em.aJ d) here (r.states.drop (j+1)) (j+1) Y >>= fun Y=>Em.cA (Em.aJ d) r r.order Y) kj):=by
     refine y.trans ((eH (aE6 hid.symm)).trans ?_)
     simp only[pA]
    have ab:Hid (vS A w (fH A d w) gS oS s gd od/\B9 ns n (eS ns d) s/\D.length=n):=⟨l,ac,O⟩
    clear hr y O hT J aa l af ac ae hid hs ag
    go_wp2_with (first
     | (go_at_call 163;refine ai.mono ?_;rintro e w2 (⟨rfl,I,h1⟩|⟨x2,k2,rfl,I,h1⟩);(· exact ⟨rfl,(.inl ⟨rfl,e1.out.trans (aH I.out),U.out.bad h1.out⟩)⟩);obtain ⟨P2,S2⟩:∃P2,Hid (Two E ns P T (fun _=>False) kb b w k P2 Tj w2 k2 D (cj)):=⟨_,U.out.coder h1.out⟩;have e2:Hid _:=e1.out.trans (bind_some I.out);clear I h1 ai;have J:=S2.out.keep HC.out.2.1;have ak:=Ta (n:=n) (so:=x2) hE HC.out.2.2.2 (ab.out.1.carry J (fH.carry d J)) ab.out.2.1 S2.out.cm S2.out.im S2.out.dis (S2.out.roU HC.out.2.1) ab.out.2.2 al.out.2;clear J)
     | (go_at_call 162;refine ak.mono ?_;rintro e w5 h5;rcases h5 with ⟨rfl,I,h1⟩|⟨t5,k5,rfl,I,P5,T5,h5⟩;(· exact ⟨rfl,.inl ⟨rfl,e2.out.trans (aH I.out),S2.out.fr.trans h1.out fun x hx h=>by { rcases h with h|h;exact (S2.out.up x h).1.elim .inl (fun h=>absurd h.1 (by omega));exact (S2.out.ut x h).1.elim .inr (fun h=>absurd h.1 (by omega)) }⟩⟩);have ap:Hid (Z=(Em.Gb (Em.aJ d) here (r.states.drop (j+1)) (j+1) t5 >>= fun Y=>Em.cA (Em.aJ d) r r.order Y) k5/\t5.length=n/\∃Pj Tj,Two E ns P T (fun _=>False) kb b w k Pj Tj w5 k5 t5 (c+2000000*(j+1))):=⟨e2.out.trans (bind_some I.out),by { rw[Sz I.out];exact ab.out.2.2 },P5,T5,(S2.out.trans h5).more (by { have:=al.out.1;omega })⟩;clear I h5 ak))
    clear U e1 S2 e2
    go_roundg (n-(j+1))
    case measure=>omega
    case rel=>exact ⟨j+1,k5,t5,rfl,by omega,by go_num,ap.out⟩
  ·obtain rfl:j=n:=by omega
   have U:Hid (Two E ns P T (fun _=>False) kb b w k Pj Tj wr kj D (c+2000000*j)):=hT
   have e1:Hid (Z=Em.cA (Em.aJ d) r r.order D kj):=by rw[Hid,y,Q.out.2.2.2.2.2.1,aK8];rfl
   have J:=U.out.keep HC.out.2.1
   have an:=tR (n:=j) hE (G0 hE d) (Q.out.2.2.2.2.2.2.2.carry J (fH.carry d J)) Q.out.2.2.2.2.1 U.out.cm U.out.im U.out.dis (U.out.roU HC.out.2.1) O Q.out.2.2.2.2.2.1 (by omega)
   clear hr y O hT J
   go_wp2_with (go_at_call 164;refine an.mono ?_;rintro e w6 h6;rcases h6 with ⟨rfl,I,h1⟩|⟨k6,rfl,I,h1⟩;(· exact ⟨rfl,nK.up U.out e1.out (.inl ⟨rfl,I,h1⟩)⟩))
   go_end0
   exact nK.up U.out e1.out (.inr ⟨k6,rfl,I,h1⟩)
theorem Tb (hE:E<1000000):∀d,Nz A kb E ns d
 | 0=>fun h=>h.elim
 | d+1=>fun hr hk h hI hd hR hn hc=>Mk hE (Tb hE d) hr hk h hI hd hR hn rfl hc
end
end Ew
end
end Go.Proofs.YthieaobjdpfcoaaGreatDoor
