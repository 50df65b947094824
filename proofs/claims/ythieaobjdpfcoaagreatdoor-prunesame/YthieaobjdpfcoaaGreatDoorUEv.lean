import Derived.Test.YthieaobjdpfcoaaGreatDoorUEu
set_option maxRecDepth 100000
set_option maxHeartbeats 16000000
namespace Go.Proofs.YthieaobjdpfcoaaGreatDoor
section
open Go.RowKit Px
namespace Ew
open Px.Em (Kd Vr eQ eR jP Rg cX)
open Nx (Nt Sp)
section
variable {P T X P1 T1 A:Nat->Prop}{w wr w2:World}{kb b E c d:Nat}{ns:List bE}{k kj k2:Kd}{t:cX}
theorem Ta (hE:E<1000000) (ih:Nz A kb E ns d) {gS o gd od n:Nat}{s:eR (St d) (Rg d)}{so:Int}(hs:vS A w (fH A d w) gS o s gd od) (hK:B9 ns n (eS ns d) s) (h:eK E ns P w kb k) (hI:xE T w b t c) (hd:∀x,P x->¬T x) (hR:Ro A (fun x=>P x\/T x) w) (hn:t.length=n) (hc:c≤6000000000000) :
    Calls Tryz.prog 162 #[.pointer (some ⟨kb,0,none⟩),.pointer (some ⟨gS,o,none⟩),.int .i64 so,.slice (some ⟨b,0,none⟩) n n] w (dE E ns P T kb b w k (c+1000000+1000000) (Em.eT (Em.aJ d) s so t k)):=by
 obtain ⟨Z,hZ⟩:∃Z,Z=Em.eT (Em.aJ d) s so t k:=⟨_,rfl⟩
 have e1:Hid (Z=(Em.choose (Em.aJ d) s so fA >>= fun c1=>Em.dU so c1.2 >>= fun ee=>Zq s c1 t ee) k):=by rw[Hid,hZ,Ip]
 rw[<-hZ]
 have HH:Hid (vS A w (fH A d w) gS o s gd od/\B9 ns n (eS ns d) s/\Ro A (fun x=>P x\/T x) w/\t.length=n/\Nz A kb E ns d):=⟨hs,hK,hR,hn,ih⟩
 have S1:Hid (Two E ns P T (fun _=>False) kb b w k P T w k t c):=Two.start h hI hd
 have bu:Calls Tryz.prog 202 _ w (zR E ns P A n kb w k (Em.choose (Em.aJ d) s so fA k)):=Uo (so:=so) hE hs hK h (S1.out.ro hR)
 clear h hI hd hR hn hs hK ih hZ
 go_enter Tryz.func162,Tryz.ntmps162
 go_upto_region 1 with (go_at_call 202;refine bu.mono ?_;rintro e w3 (⟨rfl,J,l⟩|⟨Y,ab,k3,am,an,ap,rfl,J,l⟩);(· exact ⟨rfl,(.inl ⟨rfl,e1.out.trans (aH J.out),S1.out.bad l.out⟩)⟩);have e3:Hid _:=e1.out.trans (bind_some J.out);clear J bu)
 clear e1
 obtain ⟨P3,av,hex,cy⟩:=S1.out.choose l.out.1 l.out.2.2.1
 have kp:=av.keep HH.out.2.2.1
 have ax:=HH.out.1.carry kp (fH.carry d kp)
 obtain ⟨vi,q2,dw⟩:=ax.iy
 obtain ⟨ai,gi,ci,rfl,di,cu,cz⟩:=dw
 obtain ⟨M,hM⟩:∃M,M=s.inside.length:=⟨_,rfl⟩
 rw[<-hM] at q2 di cu
 have I:Hid (Two E ns P T (fun _=>False) kb b w k P3 T w3 k3 t c/\qI A w3 (.slice am an ap) Y/\(∀g,(Value.slice am an ap).ownBlock=some g->g<w3.heap.size/\¬(P3 g\/T g))/\(∀y∈Y,xK ns n y.1)/\Y.length≤1000000/\vS A w3 (fH A d w3) gS o s gd od/\Ro A (fun x=>P3 x\/T x) w3):=⟨av,l.out.2.1,fun g U=>⟨by obtain ⟨_,hr,_⟩:=l.out.2.1;exact (hr.lt g U).2,hex g U⟩,l.out.2.2.2.1,l.out.2.2.2.2.2,ax,av.roU HH.out.2.2.1⟩
 have HI:Hid ((0<M->ai=some ⟨gi,0,none⟩/\A gi)/\(∀j r,s.inside[j]?=some r->∃gr,w3.cell? ⟨gi,j,none⟩=some (.pointer (some ⟨gr,0,none⟩))/\fH A d w3 r gr)/\M=s.inside.length/\w3.cell? ⟨gS,o+2,none⟩=some (.slice ai M ci)/\A gS):=⟨cu,cz,hM,q2,ax.dA.2⟩
 have S3:Hid (Two E ns P3 T (fun _=>False) kb b w3 k3 P3 T w3 k3 t c):=Two.start av.cm av.im av.dis
 have ek:(M:Int)≤1000000:=by have:=HH.out.2.1.il;omega
 have dj:=oL so ab S3.out.cm hE
 clear l av hex cy kp ax q2 cu cz hM di S1
 go_upto_region 2 with (go_at_call 204;refine dj.mono ?_;rintro e w4 (⟨rfl,J,l⟩|⟨x4,k4,rfl,J,l⟩);(· exact ⟨rfl,dE.up I.out.1 rfl (.inl ⟨rfl,e3.out.trans (aH J.out),S3.out.bad l.out⟩)⟩);obtain ⟨P4,S4⟩:∃P4,Hid (Two E ns P3 T (fun _=>False) kb b w3 k3 P4 T w4 k4 t (c)):=⟨_,S3.out.coder l.out⟩;have e4:Hid _:=e3.out.trans (bind_some J.out);clear J l dj)
 have kp:=S4.out.keep I.out.2.2.2.2.2.2
 have ad:=I.out.2.2.2.2.2.1.carry kp (fH.carry d kp)
 obtain ⟨pr,q6,cr⟩:=ad.re
 have q0:=ad.d
 obtain ⟨Br,ct⟩:∃Br,pr.isSome=Br:=⟨_,rfl⟩
 have dx:∀w,(binOp BinOp.neq 220 (.pointer pr) (.pointer none)).run Tryz.prog w=.ok (.bool Br) w:=fun w=>by rw[<-ct];exact Qy pr w
 have df:Hid (Br=!Em.Er s.drawn.rests):=by rw[Hid,<-ct];exact Hx cr
 obtain ⟨B,hB⟩:∃B,B=(Br&&(x4 != -1)):=⟨_,rfl⟩
 have HB:Hid (B=(Br&&(x4 != -1))):=hB
 have dz:Hid (jR A w4 s.drawn.rests (.pointer pr)):=cr
 clear kp ad cr ct hB S3 e3
 go_cut [38] (fun ef wx=>Hid (ef=.bool B/\wx=w4))
 case first=>
  cases Br with
  | false=>
   go_wp2_with fail
   go_meet
   case rel=>exact ⟨by rw[HB.out];rfl,rfl⟩
  | true=>
   by_cases hx:x4=-1
   ·have t1:(x4 == -1)=true:=by simpa using hx
    have t2:(x4 != -1)=false:=by simp[hx]
    clear hx
    go_wp2_with fail
    go_meet
    case rel=>exact ⟨by rw[HB.out,t2];rfl,rfl⟩
   ·have t1:(x4 == -1)=false:=by simpa using hx
    have t2:(x4 != -1)=true:=by simp[hx]
    clear hx
    go_wp2_with fail
    go_meet
    case rel=>exact ⟨by rw[HB.out,t2];rfl,rfl⟩
 case rest=>
  obtain ⟨ds,dt⟩:=hcut.out
  subst ds
  subst dt
  clear dx
  go_upto_if 38 with fail
  go_cut [10] (fun ed wx=>∃(on:Int) (km:Kd),ed=.int .i64 on/\Hid (Z=gs5 s (Y,ab) t on km/\∃Pm,Two E ns P3 T (fun _=>False) kb b w3 k3 Pm T wx km t c))
  case first=>
   cases B with
   | true=>
    have dn:¬(Em.Er s.drawn.rests=true\/x4=-1):=by
     have l:=HB.out
     rw[df.out] at l
     rintro (h|h)
     ·rw[h] at l;simp at l
     ·rw[h] at l;simp at l
    have e5:Hid (Z=(Em.eP s.drawn.rests >>= fun x=>Em.bS 0 >>= fun z=>Em.made 17 x z x4 >>= fun on=>gs5 s (Y,ab) t on) k4):=by
     rw[Hid,e4.out]
     show Zq s (Y,ab) t x4 k4=_
     unfold Zq
     rw[if_neg dn]
    have S5:=S4
    have hex:=lN (A:=A) (kb:=kb) (ns:=ns) hE s.drawn.rests HH.out.2.1.re dz.out S5.out.cm (S5.out.ro I.out.2.2.2.2.2.2)
    clear dn e4
    go_wp2_with (first
     | (go_at_call 206;refine hex.mono ?_;rintro e w6 (⟨rfl,J,l⟩|⟨x6,k6,rfl,J,l⟩);(· exact ⟨rfl,dE.up I.out.1 rfl (.inl ⟨rfl,e5.out.trans (aH J.out),S5.out.bad l.out⟩)⟩);obtain ⟨P6,S6⟩:∃P6,Hid (Two E ns P3 T (fun _=>False) kb b w3 k3 P6 T w6 k6 t (c)):=⟨_,S5.out.coder l.out⟩;have e6:Hid _:=e5.out.trans (bind_some J.out);clear J l hex;have cn:=dP (n:=0) S6.out.cm hE jF.zero)
     | (go_at_call 207;refine cn.mono ?_;rintro e w7 (⟨rfl,J,l⟩|⟨x7,k7,rfl,J,l⟩);(· exact ⟨rfl,dE.up I.out.1 rfl (.inl ⟨rfl,e6.out.trans (aH J.out),S6.out.bad l.out⟩)⟩);obtain ⟨P7,S7⟩:∃P7,Hid (Two E ns P3 T (fun _=>False) kb b w3 k3 P7 T w7 k7 t (c)):=⟨_,S6.out.coder l.out⟩;have e7:Hid _:=e6.out.trans (bind_some J.out);clear J l cn;have bo:=gU 17 x6 x7 x4 S7.out.cm hE)
     | (go_at_call 205;refine bo.mono ?_;rintro e w8 (⟨rfl,J,l⟩|⟨x8,k8,rfl,J,l⟩);(· exact ⟨rfl,dE.up I.out.1 rfl (.inl ⟨rfl,e7.out.trans (aH J.out),S7.out.bad l.out⟩)⟩);obtain ⟨P8,S8⟩:∃P8,Hid (Two E ns P3 T (fun _=>False) kb b w3 k3 P8 T w8 k8 t (c)):=⟨_,S7.out.coder l.out⟩;have e8:Hid _:=e7.out.trans (bind_some J.out);clear J l bo))
    go_meet
    case rel=>exact ⟨x8,k8,rfl,e8.out,P8,S8.out⟩
   | false=>
    have ch:Em.Er s.drawn.rests=true\/x4=-1:=by
     have l:=HB.out
     rw[df.out] at l
     cases h2:Em.Er s.drawn.rests with
     | true=>exact .inl rfl
     | false=>rw[h2] at l;exact .inr (by simpa using l)
    have be:Hid (Z=gs5 s (Y,ab) t x4 k4/\∃Pm,Two E ns P3 T (fun _=>False) kb b w3 k3 Pm T wc k4 t c):=by
     refine ⟨?_,P4,S4.out⟩
     rw[e4.out]
     show Zq s (Y,ab) t x4 k4=_
     unfold Zq
     rw[if_pos ch]
    clear ch e4 S4
    go_wp2_with fail
    go_meet
    case rel=>exact ⟨x4,k4,rfl,be.out⟩
  case rest=>
   obtain ⟨on,km,rfl,hc⟩:=hcut
   obtain ⟨dh,Pm,dl⟩:=hc.out
   have S9:Hid (Two E ns P3 T (fun _=>False) kb b w3 k3 Pm T wc km t c):=dl
   have e9:Hid (Z=(Em.vM on s.drawn.during >>= fun _=>Em.pZ (Em.aJ d) on s.inside >>= fun _=>Em.choose (Em.aJ d) s on fB >>= fun c2=>Oc s (Y,ab) c2 t) km):=dh
   have kp:=S9.out.keep I.out.2.2.2.2.2.2
   have ad:=I.out.2.2.2.2.2.1.carry kp (fH.carry d kp)
   obtain ⟨vd,q4,co⟩:=ad.du
   have r0:=ad.d
   have bp:=vL (so:=on) HH.out.2.1.du co S9.out.cm (S9.out.ro I.out.2.2.2.2.2.2) hE
   obtain ⟨va,vn,vc,rfl⟩:=co.sl'
   clear hc dh dl kp ad co S4 e4
   go_upto_region 5 with (go_at_call 208;refine bp.mono ?_;rintro e dd (⟨rfl,J,l⟩|⟨_,cg,rfl,J,l⟩);(· exact ⟨rfl,dE.up I.out.1 rfl (.inl ⟨rfl,e9.out.trans (aH J.out),S9.out.bad l.out⟩)⟩);obtain ⟨cp,cw⟩:∃cp,Hid (Two E ns P3 T (fun _=>False) kb b w3 k3 cp T dd cg t (c)):=⟨_,S9.out.coder l.out⟩;have e10:Hid _:=e9.out.trans (bind_some J.out);clear J l bp)
   obtain ⟨D,hD⟩:∃D:Unit->Em.M cX,D=fun _=>Em.choose (Em.aJ d) s on fB >>= fun c2=>Oc s (Y,ab) c2 t:=⟨_,rfl⟩
   have HD:Hid (D=fun _=>Em.choose (Em.aJ d) s on fB >>= fun c2=>Oc s (Y,ab) c2 t):=hD
   have q2:=cL (cw.out.keep I.out.2.2.2.2.2.2) HI.out.2.2.2.2 HI.out.2.2.2.1
   have dm:Hid (Z=(Em.pZ (Em.aJ d) on (s.inside.drop 0) >>= D) cg/\∃Pj,Two E ns P3 T (fun _=>False) kb b w3 k3 Pj T dd cg t c):=⟨by rw[hD];exact e10.out,cp,cw.out⟩
   clear hD S9 e9 cw e10 q4 r0
   go_wp2_with fail
   clear q2
   go_loopg [69] M (fun f i wr=>∃(j:Nat) (kj:Kd),f=M-j/\j≤M/\i=.int .i64 (j:Int)/\Hid (Z=(Em.pZ (Em.aJ d) on (s.inside.drop j) >>= D) kj/\∃Pj,Two E ns P3 T (fun _=>False) kb b w3 k3 Pj T wr kj t c))
   case atStart=>exact ⟨0,cg,by omega,by omega,rfl,dm.out⟩
   case round=>
    obtain ⟨j,kj,rfl,hj,rfl,hr⟩:=hrel
    obtain ⟨ao,P0,hT⟩:=hr.out
    by_cases hlt:j<M
    ·obtain ⟨r,ba⟩:∃r:Rg d,s.inside[j]?=some r:=⟨s.inside[j]'(by rw[<-HI.out.2.2.1];exact hlt),aE5 _⟩
     obtain ⟨gr,c0,aw⟩:=HI.out.2.1 j r ba
     have kp:=hT.keep I.out.2.2.2.2.2.2
     have ea:=Xp ai gi M ci j hlt (fun Q=>(HI.out.1 Q).1)
     have c0:=cL kp (HI.out.1 (by omega)).2 c0
     have aw:=fH.carry d kp _ _ aw
     have bi:=HH.out.2.1.sub r (aH8 ba)
     obtain ⟨ce,cf,az,vo,fi,lv,ar,hsz⟩:=fH.cells d aw bi
     obtain ⟨id,hid⟩:∃id,id=(Em.aJ d).idle r:=⟨_,rfl⟩
     obtain ⟨nn,bc⟩:∃nn,nn=(Em.aJ d).size r:=⟨_,rfl⟩
     obtain ⟨th,bv⟩:∃th,th=(Em.aJ d).there r:=⟨_,rfl⟩
     rw[<-hid,<-bc,<-bv] at ar
     have g4:=aA ar 4 (u:=.bool id) rfl
     rw[dT ba] at ao
     by_cases hskip:on=-1\/id=true
     ·have be:Hid (Z=(Em.pZ (Em.aJ d) on (s.inside.drop (j+1)) >>= D) kj/\∃Pj,Two E ns P3 T (fun _=>False) kb b w3 k3 Pj T wr kj t c):=⟨ao.trans (eH (m':=Em.pZ (Em.aJ d) on (s.inside.drop (j+1))) (Ml (by rw[<-hid];exact hskip))),P0,hT⟩
      by_cases ak:on=-1
      ·have t1:(on == -1)=true:=by simpa using ak
       have t2:(on != -1)=false:=by simp[ak]
       clear hr ao hT kp aw bi ar hid bc bv hskip ak ba ce
       go_wp2_with fail
       go_roundg (M-(j+1))
       case measure=>omega
       case rel=>exact ⟨j+1,kj,rfl,by omega,by go_num,be.out⟩
      ·have t1:(on == -1)=false:=by simpa using ak
       have t2:(on != -1)=true:=by simp[ak]
       obtain rfl:id=true:=by rcases hskip with h|h;exact absurd h ak;exact h
       clear hr ao hT kp aw bi ar hid bc bv hskip ak ba ce
       go_wp2_with fail
       go_roundg (M-(j+1))
       case measure=>omega
       case rel=>exact ⟨j+1,kj,rfl,by omega,by go_num,be.out⟩
     ·have ak:¬on=-1:=fun h=>hskip (.inl h)
      have t1:(on == -1)=false:=by simpa using ak
      have t2:(on != -1)=true:=by simp[ak]
      obtain rfl:id=false:=by cases id;rfl;exact absurd (.inr rfl) hskip
      have g0:=aA ar 0 (u:=.slice cf nn az) rfl
      have g3:=aA ar 3 (u:=.int .i64 th) rfl
      have eg:∀ob,(wr.alloc ob).cell? ⟨gr,3,none⟩=some (.int .i64 th):=fun ob=>aN (aC wr ob) g3
      have e10:Hid (Z=(Em.given on th >>= fun h=>(Em.aJ d).goOn r h (List.replicate ((Em.aJ d).size r) []) >>= fun _=>Em.pZ (Em.aJ d) on (s.inside.drop (j+1)) >>= D) kj):=by
       rw[Hid,bv]
       refine ao.trans ((eH (Ya (by rw[<-hid];exact hskip))).trans ?_)
       simp only[pA]
      have em:∀W,(Instr.makeSlice 190 (.int .i64 (nn:Int)) (.int .i64 (nn:Int))).run Tryz.prog W=.ok (.slice (some ⟨W.heap.size,0,none⟩) nn nn) (W.alloc (.cells (List.replicate nn (Value.slice none 0 0)).toArray 238)):=fun W=>Rh W nn (by rw[bc];exact hsz)
      have cq:=hT.ro I.out.2.2.2.2.2.2
      have dy:∀W,Below wr.heap.size wr W->Calls Tryz.prog 209 #[.pointer (some ⟨kb,0,none⟩),.int .i64 on,.int .i64 th] W (fJ E ns P0 kb W kj (Em.given on th kj) (Value.int .i64)):=fun W hb=>vH on th (hT.cm.below hb) hE
      have HG:Hid (Two E ns P3 T (fun _=>False) kb b w3 k3 P0 T wr kj t c/\wr.heap[gr]?=some (.cells #[.slice cf nn az,vo,.int .i64 fi,.int .i64 th,.bool false,.bool lv] 188 (0,0))/\(∀x,P0 x->x<wr.heap.size)/\Ro A P0 wr/\fH A d wr r gr/\eS ns d r/\¬P0 gr):=⟨hT,ar,hT.cm.2.2,cq,aw,bi,(cq gr ce).2⟩
      have bk:Below wr.heap.size wr wr.drew:=⟨rfl,rfl,rfl,aF4 _,fun _ _=>rfl⟩
      have ca:∀ob,Below wr.heap.size wr (wr.drew.alloc ob):=fun ob=>aQ bk (aC wr.drew ob)
      have cc:∀ob,Below wr.heap.size wr (wr.alloc ob).drew:=fun ob=>(aC wr ob).drew
      have en:Hid (nn=(Em.aJ d).size r):=bc
      have dr:Hid (∀ob,(wr.drew.alloc ob).heap.size=wr.heap.size+1/\(wr.alloc ob).drew.heap.size=wr.heap.size+1):=fun ob=>⟨by simp,by simp⟩
      clear hr ao hT kp aw bi ar hid bv hskip ak ba ce cq
      subst bc
      go_upto_region 9 with fail
      clear t1 t2 g4 ea c0
      go_region_law (first
       | (go_simp;go_at_call 209;refine (dy _ (by first|exact bk|exact ca _|exact cc _)).mono ?_;rintro e ah (⟨rfl,J,l⟩|⟨x11,da,rfl,J,l⟩);(· exact ⟨rfl,dE.up I.out.1 rfl (.inl ⟨rfl,e10.out.trans (aH J.out),HG.out.1.bad ((bM.of_below (by first|exact bk|exact ca _|exact cc _)).trans l.out fun _ _ h=>h)⟩)⟩)
          have e11:Hid _:=e10.out.trans (bind_some J.out)
          have db:ah.heap[gr]?=some (.cells #[.slice cf ((Em.aJ d).size r) az,vo,.int .i64 fi,.int .i64 th,.bool false,.bool lv] 188 (0,0)):=l.out.2.1.heap (by first|exact aD bk HG.out.2.1|exact aD (ca _) HG.out.2.1|exact aD (cc _) HG.out.2.1) HG.out.2.2.2.2.2.2
          have z0:=aA db 0 (u:=.slice cf ((Em.aJ d).size r) az) rfl
          first
           | (have cb:=zB (here:=x11) (b':=wr.heap.size) HH.out.2.2.2.2 HG.out.2.2.1 (ca _) l.out (Below.refl _ _) ⟨aF4 _,fun hu=>hu.elim (fun h=>absurd (HG.out.2.2.1 _ h) (by omega)) fun h=>absurd h.1 (by rw[(dr.out _).1];omega)⟩ (l.out.2.1.heap (aX wr.drew _) (fun h=>absurd (HG.out.2.2.1 _ h) (Nat.lt_irrefl _))) HG.out.2.2.2.1 HG.out.2.2.2.2.1 HG.out.2.2.2.2.2.1)
           | (have cb:=zB (here:=x11) (b':=wr.heap.size) HH.out.2.2.2.2 HG.out.2.2.1 (cc _) l.out (Below.refl _ _) ⟨aF4 _,fun hu=>hu.elim (fun h=>absurd (HG.out.2.2.1 _ h) (by omega)) fun h=>absurd h.1 (by rw[(dr.out _).2];omega)⟩ (l.out.2.1.heap (show (wr.alloc _).drew.heap[wr.heap.size]?=_ from aX wr _) (fun h=>absurd (HG.out.2.2.1 _ h) (Nat.lt_irrefl _))) HG.out.2.2.2.1 HG.out.2.2.2.2.1 HG.out.2.2.2.2.2.1)
           | (have cb:=zB (here:=x11) (b':=ah.heap.size) (W':=ah.alloc (.cells (Array.replicate ((Em.aJ d).size r) (Value.slice none 0 0)) 238)) HH.out.2.2.2.2 HG.out.2.2.1 bk l.out (aC _ _) ⟨l.out.2.1.size,fun hu=>absurd (l.out.1.2.2 _ hu) (Nat.lt_irrefl _)⟩ (aX _ _) HG.out.2.2.2.1 HG.out.2.2.2.2.1 HG.out.2.2.2.2.2.1)
          clear J l db)
       | (go_simp;go_at_call 118;refine cb.mono ?_;rintro e dq ec;rcases ec with ⟨rfl,J,l⟩|⟨k12,rfl,J,l⟩;(· exact ⟨rfl,dE.up I.out.1 rfl (.inl ⟨rfl,e11.out.trans (aH J.out),HG.out.1.bad l.out⟩)⟩);obtain ⟨cv,dp⟩:∃cv,Hid (Two E ns P3 T (fun _=>False) kb b w3 k3 cv T dq k12 t c):=⟨_,HG.out.1.coder l.out⟩;have e12:Hid _:=e11.out.trans (bind_some J.out);clear J l cb))
      all_goals
       have be:Hid (Z=(Em.pZ (Em.aJ d) on (s.inside.drop (j+1)) >>= D) k12/\∃Pj,Two E ns P3 T (fun _=>False) kb b w3 k3 Pj T dq k12 t c):=⟨e12.out,cv,dp.out⟩
       clear e10 e11 e12 dp HG
       go_wp2_with fail
       go_roundg (M-(j+1))
       case measure=>omega
       case rel=>exact ⟨j+1,k12,rfl,by omega,by go_num,be.out⟩
    ·obtain rfl:j=M:=by omega
     have S5:Hid (Two E ns P3 T (fun _=>False) kb b w3 k3 P0 T wr kj t c):=hT
     have e5:Hid (Z=(Em.choose (Em.aJ d) s on fB >>= fun c2=>Oc s (Y,ab) c2 t) kj):=by
      rw[Hid,ao,HD.out,HI.out.2.2.1,aK8];rfl
     have kp:=hT.keep I.out.2.2.2.2.2.2
     have bu:Calls Tryz.prog 202 _ wr (zR E ns P0 A n kb wr kj (Em.choose (Em.aJ d) s on fB kj)):=Un (so:=on) hE (I.out.2.2.2.2.2.1.carry kp (fH.carry d kp)) HH.out.2.1 S5.out.cm (S5.out.ro I.out.2.2.2.2.2.2)
     clear hr ao hT kp dm
     go_upto_region 12 with (go_at_call 202;refine bu.mono ?_;rintro e w6 (⟨rfl,J,l⟩|⟨af,cd,k6,ac,aa,ae,rfl,J,l⟩);(· exact ⟨rfl,dE.up I.out.1 rfl (.inl ⟨rfl,e5.out.trans (aH J.out),S5.out.bad l.out⟩)⟩);have e6:Hid _:=e5.out.trans (bind_some J.out);clear J bu)
     obtain ⟨P6,al,hex,cy⟩:=S5.out.choose l.out.1 l.out.2.2.1
     have kp:=al.keep I.out.2.2.2.2.2.2
     have ay:=I.out.2.2.2.2.2.1.carry kp (fH.carry d kp)
     have O:Hid (Two E ns P3 T (fun _=>False) kb b w3 k3 P6 T w6 k6 t c/\qI A w6 (.slice ac aa ae) af/\(∀g,(Value.slice ac aa ae).ownBlock=some g->g<w6.heap.size/\¬(P6 g\/T g))/\(∀y∈af,xK ns n y.1)/\af.length≤1000000/\qI A w6 (.slice am an ap) Y/\(∀g,(Value.slice am an ap).ownBlock=some g->g<w6.heap.size/\¬(P6 g\/T g))/\vS A w6 (fH A d w6) gS o s gd od/\Ro A (fun x=>P6 x\/T x) w6):=by
      refine ⟨al,l.out.2.1,fun g U=>⟨by obtain ⟨_,hr,_⟩:=l.out.2.1;exact (hr.lt g U).2,hex g U⟩,l.out.2.2.2.1,l.out.2.2.2.2.2,I.out.2.1.keep kp (fun g U=>al.fr.block g (I.out.2.2.1 g U).1 (I.out.2.2.1 g U).2),fun g U=>⟨aH3 (I.out.2.2.1 g U).1 al.fr.size,fun Q=>?_⟩,ay,al.roU I.out.2.2.2.2.2.2⟩
      have hq:=I.out.2.2.1 g U
      rcases Q with Q|Q
      ·exact (al.up g Q).1.elim (fun h=>hq.2 (.inl h)) fun h=>absurd h.1 (by omega)
      ·exact hq.2 (.inr Q)
     have S6:Hid (Two E ns P6 T (fun _=>False) kb b w6 k6 P6 T w6 k6 t c):=Two.start al.cm al.im al.dis
     have q4:=ay.leaves
     obtain ⟨lv,bz⟩:∃lv,lv=s.leaves:=⟨_,rfl⟩
     rw[<-bz] at q4
     have dk:Hid True:=trivial
     clear l al hex cy kp S5 e5
     cases lv with
     | false=>
      have e7:Hid (Z=(Em.take Y t >>= fun t'=>Em.take af t') k6):=by
       rw[Hid,e6.out]
       show Oc s (Y,ab) (af,cd) t k6=_
       unfold Oc
       rw[<-bz,if_neg (by simp)]
       rfl
      have S7:=S6
      clear e6 bz ay S6
      have ks:=S7.out.keep O.out.2.2.2.2.2.2.2.2
      have bf:qI A w6 (.slice am an ap) Y:=O.out.2.2.2.2.2.1.keep ks fun g U=>S7.out.fr.block g (O.out.2.2.2.2.2.2.1 g U).1 (O.out.2.2.2.2.2.2.1 g U).2
      have bj:qI A w6 (.slice ac aa ae) af:=O.out.2.1.keep ks fun g U=>S7.out.fr.block g (O.out.2.2.1 g U).1 (O.out.2.2.1 g U).2
      have hx1:∀g,(Value.slice am an ap).ownBlock=some g->¬(P6 g\/T g):=fun g U Q=>by
       have hq:=O.out.2.2.2.2.2.2.1 g U
       rcases Q with Q|Q
       ·exact (S7.out.up g Q).1.elim (fun h=>hq.2 (.inl h)) fun h=>absurd h.1 (by omega)
       ·exact hq.2 (.inr Q)
      have bq:∀g,(Value.slice ac aa ae).ownBlock=some g->¬(P6 g\/T g)/\g<w6.heap.size:=fun g U=>by
       have hq:=O.out.2.2.1 g U
       refine ⟨fun Q=>?_,aH3 hq.1 S7.out.fr.size⟩
       rcases Q with Q|Q
       ·exact (S7.out.up g Q).1.elim (fun h=>hq.2 (.inl h)) fun h=>absurd h.1 (by omega)
       ·exact hq.2 (.inr Q)
      have au:=S7.out.roU O.out.2.2.2.2.2.2.2.2
      have br:=dS (n:=n) hE bf hx1 I.out.2.2.2.1 HH.out.2.2.2.1 I.out.2.2.2.2.1 S7.out.cm S7.out.im S7.out.dis au (by omega)
      have HT:Hid (qI A w6 (.slice ac aa ae) af/\(∀g,(Value.slice ac aa ae).ownBlock=some g->¬(P6 g\/T g)/\g<w6.heap.size)/\Ro A (fun x=>P6 x\/T x) w6):=⟨bj,bq,au⟩
      clear ks bf bj hx1 bq au
      go_wp2_with (first
       | (clear dk;go_at_call 213;refine br.mono ?_;rintro e bw (⟨rfl,J,l⟩|⟨t7,k7,rfl,J,P7,T7,h7⟩);(· exact ⟨rfl,dE.up I.out.1 rfl (dE.up O.out.1 rfl (dE.up S7.out e7.out (.inl ⟨rfl,aH J.out,l⟩)))⟩);have H7:Hid _:=h7;have E7:Hid _:=J.out;have kq:bB A A w6 bw:=h7.keep HT.out.2.2;have bn:qI A bw (.slice ac aa ae) af:=HT.out.1.keep kq (fun g U=>h7.fr.block g (HT.out.2.1 g U).2 (HT.out.2.1 g U).1);have bh:∀g,(Value.slice ac aa ae).ownBlock=some g->¬(P7 g\/T7 g):=(fun g U Q=>by { have hq:=HT.out.2.1 g U;rcases Q with Q|Q;exact (h7.up g Q).1.elim (fun h=>hq.1 (.inl h)) (fun h=>absurd h.1 (by omega));exact (h7.ut g Q).1.elim (fun h=>hq.1 (.inr h)) (fun h=>absurd h.1 (by omega)) });have bm:=dS (n:=n) hE bn bh O.out.2.2.2.1 (by rw[jX J.out];exact HH.out.2.2.2.1) O.out.2.2.2.2.1 h7.cm h7.im h7.dis (h7.roU HT.out.2.2) (by omega);clear J h7 kq bn bh br)
       | (go_at_call 213;refine bm.mono ?_;rintro e eb h8;rcases h8 with ⟨rfl,J,l⟩|⟨t8,k8,rfl,J,l⟩;(· exact ⟨rfl,dE.up I.out.1 rfl (dE.up O.out.1 rfl (dE.up S7.out e7.out (dE.up H7.out (bind_some E7.out) (.inl ⟨rfl,J,l⟩))))⟩)))
      go_end0
      exact dE.up I.out.1 rfl (dE.up O.out.1 rfl (dE.up S7.out e7.out (dE.up H7.out (bind_some E7.out) (.inr ⟨t8,k8,rfl,J,l⟩))))
     | true=>
      have e7:Hid (Z=(Em.uZ ab cd >>= fun gone=>Em.dI (Em.aJ d) s.inside gone >>= fun _=>Em.vM gone s.drawn.leave >>= fun _=>Em.take Y t >>= fun t'=>Em.take af t') k6):=by
       rw[Hid,e6.out]
       show Oc s (Y,ab) (af,cd) t k6=_
       unfold Oc
       rw[<-bz,if_pos rfl]
       rfl
      have S7:=S6
      have de:=pS ab cd S7.out.cm hE
      clear e6 bz ay S6
      go_upto_region 14 with (go_at_call 211;refine de.mono ?_;rintro e w8 (⟨rfl,J,l⟩|⟨x8,k8,rfl,J,l⟩);(· exact ⟨rfl,dE.up I.out.1 rfl (dE.up O.out.1 rfl (.inl ⟨rfl,e7.out.trans (aH J.out),S7.out.bad l.out⟩))⟩);obtain ⟨P8,S8⟩:∃P8,Hid (Two E ns P6 T (fun _=>False) kb b w6 k6 P8 T w8 k8 t (c)):=⟨_,S7.out.coder l.out⟩;have e8:Hid _:=e7.out.trans (bind_some J.out);clear J l de)
      clear S7 e7 q4
      have kp:=S8.out.keep O.out.2.2.2.2.2.2.2.2
      have ad:=O.out.2.2.2.2.2.2.2.1.carry kp (fH.carry d kp)
      obtain ⟨vj,q2,dc⟩:=ad.iy
      have ck:=rY hE d (so:=x8) dc HH.out.2.1.sub S8.out.cm (S8.out.ro O.out.2.2.2.2.2.2.2.2)
      obtain ⟨aj,gj,cj,rfl,_⟩:=dc
      clear kp ad
      go_upto_region 15 with (go_at_call 212;refine ck.mono ?_;rintro e w9 (⟨rfl,J,l⟩|⟨_,k9,rfl,J,l⟩);(· exact ⟨rfl,dE.up I.out.1 rfl (dE.up O.out.1 rfl (.inl ⟨rfl,e8.out.trans (aH J.out),S8.out.bad l.out⟩))⟩);obtain ⟨P9,S9⟩:∃P9,Hid (Two E ns P6 T (fun _=>False) kb b w6 k6 P9 T w9 k9 t (c)):=⟨_,S8.out.coder l.out⟩;have e9:Hid _:=e8.out.trans (bind_some J.out);clear J l ck)
      clear S8 e8 q2
      have kp:=S9.out.keep O.out.2.2.2.2.2.2.2.2
      have ad:=O.out.2.2.2.2.2.2.2.1.carry kp (fH.carry d kp)
      obtain ⟨vl,q5,cx⟩:=ad.le
      have r0:=ad.d
      have bp:=vL (so:=x8) HH.out.2.1.le cx S9.out.cm (S9.out.ro O.out.2.2.2.2.2.2.2.2) hE
      obtain ⟨ei,ej,eh,rfl⟩:=cx.sl'
      clear kp ad cx
      go_upto_region 16 with (go_at_call 208;refine bp.mono ?_;rintro e ah (⟨rfl,J,l⟩|⟨_,da,rfl,J,l⟩);(· exact ⟨rfl,dE.up I.out.1 rfl (dE.up O.out.1 rfl (.inl ⟨rfl,e9.out.trans (aH J.out),S9.out.bad l.out⟩))⟩);obtain ⟨bb,ag⟩:∃bb,Hid (Two E ns P6 T (fun _=>False) kb b w6 k6 bb T ah da t (c)):=⟨_,S9.out.coder l.out⟩;have e11:Hid _:=e9.out.trans (bind_some J.out);clear J l bp)
      clear S9 e9 q5 r0
      have ks:=ag.out.keep O.out.2.2.2.2.2.2.2.2
      have bf:qI A ah (.slice am an ap) Y:=O.out.2.2.2.2.2.1.keep ks fun g U=>ag.out.fr.block g (O.out.2.2.2.2.2.2.1 g U).1 (O.out.2.2.2.2.2.2.1 g U).2
      have bj:qI A ah (.slice ac aa ae) af:=O.out.2.1.keep ks fun g U=>ag.out.fr.block g (O.out.2.2.1 g U).1 (O.out.2.2.1 g U).2
      have hx1:∀g,(Value.slice am an ap).ownBlock=some g->¬(bb g\/T g):=fun g U Q=>by
       have hq:=O.out.2.2.2.2.2.2.1 g U
       rcases Q with Q|Q
       ·exact (ag.out.up g Q).1.elim (fun h=>hq.2 (.inl h)) fun h=>absurd h.1 (by omega)
       ·exact hq.2 (.inr Q)
      have bq:∀g,(Value.slice ac aa ae).ownBlock=some g->¬(bb g\/T g)/\g<ah.heap.size:=fun g U=>by
       have hq:=O.out.2.2.1 g U
       refine ⟨fun Q=>?_,aH3 hq.1 ag.out.fr.size⟩
       rcases Q with Q|Q
       ·exact (ag.out.up g Q).1.elim (fun h=>hq.2 (.inl h)) fun h=>absurd h.1 (by omega)
       ·exact hq.2 (.inr Q)
      have au:=ag.out.roU O.out.2.2.2.2.2.2.2.2
      have br:=dS (n:=n) hE bf hx1 I.out.2.2.2.1 HH.out.2.2.2.1 I.out.2.2.2.2.1 ag.out.cm ag.out.im ag.out.dis au (by omega)
      have HT:Hid (qI A ah (.slice ac aa ae) af/\(∀g,(Value.slice ac aa ae).ownBlock=some g->¬(bb g\/T g)/\g<ah.heap.size)/\Ro A (fun x=>bb x\/T x) ah):=⟨bj,bq,au⟩
      clear ks bf bj hx1 bq au
      go_wp2_with (first
       | (clear dk;go_at_call 213;refine br.mono ?_;rintro e bw (⟨rfl,J,l⟩|⟨t7,k7,rfl,J,P7,T7,h7⟩);(· exact ⟨rfl,dE.up I.out.1 rfl (dE.up O.out.1 rfl (dE.up ag.out e11.out (.inl ⟨rfl,aH J.out,l⟩)))⟩);have H7:Hid _:=h7;have E7:Hid _:=J.out;have kq:bB A A ah bw:=h7.keep HT.out.2.2;have bn:qI A bw (.slice ac aa ae) af:=HT.out.1.keep kq (fun g U=>h7.fr.block g (HT.out.2.1 g U).2 (HT.out.2.1 g U).1);have bh:∀g,(Value.slice ac aa ae).ownBlock=some g->¬(P7 g\/T7 g):=(fun g U Q=>by { have hq:=HT.out.2.1 g U;rcases Q with Q|Q;exact (h7.up g Q).1.elim (fun h=>hq.1 (.inl h)) (fun h=>absurd h.1 (by omega));exact (h7.ut g Q).1.elim (fun h=>hq.1 (.inr h)) (fun h=>absurd h.1 (by omega)) });have bm:=dS (n:=n) hE bn bh O.out.2.2.2.1 (by rw[jX J.out];exact HH.out.2.2.2.1) O.out.2.2.2.2.1 h7.cm h7.im h7.dis (h7.roU HT.out.2.2) (by omega);clear J h7 kq bn bh br)
       | (go_at_call 213;refine bm.mono ?_;rintro e eb h8;rcases h8 with ⟨rfl,J,l⟩|⟨t8,k8,rfl,J,l⟩;(· exact ⟨rfl,dE.up I.out.1 rfl (dE.up O.out.1 rfl (dE.up ag.out e11.out (dE.up H7.out (bind_some E7.out) (.inl ⟨rfl,J,l⟩))))⟩)))
      go_end0
      exact dE.up I.out.1 rfl (dE.up O.out.1 rfl (dE.up ag.out e11.out (dE.up H7.out (bind_some E7.out) (.inr ⟨t8,k8,rfl,J,l⟩))))
end
end Ew
end
section
open Go.RowKit Px
namespace Ew
open Px.Em (Kd Vr eQ eR jP Rg cX)
open Nx (Nt Sp)
section
variable {P T X P1 T1 A:Nat->Prop}{w wr w2:World}{kb b E c d:Nat}{ns:List bE}{k kj k2:Kd}{t:cX}
theorem Sz {s:eR (St d) (Rg d)}{so:Int}{j:cX}{l:Kd}(h:Em.eT (Em.aJ d) s so t k=some (j,l)):j.length=t.length:=by
 rw[Ip] at h
 obtain ⟨c1,I,_,h⟩:=cV h
 obtain ⟨on,J,_,h⟩:=cV h
 have r:∀{c2:List (eQ×Int)×Int}{k:Kd},Zs c1 c2 t k=some (j,l)->j.length=t.length:=fun {c2 k} h=>by
  obtain ⟨O,D,n,y⟩:=cV h
  rw[jX y,jX n]
 have u:∀{c2:List (eQ×Int)×Int}{k:Kd},Oc s c1 c2 t k=some (j,l)->j.length=t.length:=fun {c2 k} h=>by
  unfold Oc at h
  split at h
  ·obtain ⟨_,_,_,h⟩:=cV h
   obtain ⟨_,_,_,h⟩:=cV h
   obtain ⟨_,_,_,h⟩:=cV h
   exact r h
  ·exact r h
 have n:∀{on:Int}{k:Kd},gs5 s c1 t on k=some (j,l)->j.length=t.length:=fun {bk k} h=>by
  obtain ⟨_,_,_,h⟩:=cV h
  obtain ⟨_,_,_,h⟩:=cV h
  obtain ⟨_,_,_,h⟩:=cV h
  exact u h
 unfold Zq at h
 split at h
 ·exact n h
 ·obtain ⟨_,_,_,h⟩:=cV h
  obtain ⟨_,_,_,h⟩:=cV h
  obtain ⟨_,_,_,h⟩:=cV h
  exact n h
theorem Tc {here:Int}{s:eR (St d) (Rg d)}{l:List (eR (St d) (Rg d))}{i:Nat}(h:s.idle=true):Em.Gb (Em.aJ d) here (s::l) i t k=Em.Gb (Em.aJ d) here l (i+1) t k:=by rw[Em.Gb,if_pos h]
theorem aE6 {here:Int}{s:eR (St d) (Rg d)}{l:List (eR (St d) (Rg d))}{i:Nat}(h:s.idle=false):Em.Gb (Em.aJ d) here (s::l) i t k=(Em.is here i >>= fun so=>Em.eT (Em.aJ d) s so t >>= fun t'=>Em.Gb (Em.aJ d) here l (i+1) t') k:=by rw[Em.Gb,if_neg (by rw[h];simp)]
theorem Mk (hE:E<1000000) (ih:Nz A kb E ns d) {r:jP (St d) (Rg d)}{g n:Nat}{here:Int}(hr:Nu A w (fH A d w) r g) (hk:Od ns (eS ns d) r) (h:eK E ns P w kb k) (hI:xE T w b t c) (hd:∀x,P x->¬T x) (hR:Ro A (fun x=>P x\/T x) w) (hn:t.length=n) (ab:n=r.states.length) (hc:c≤2000000) :
    Calls Tryz.prog 118 #[.pointer (some ⟨kb,0,none⟩),.pointer (some ⟨g,0,none⟩),.int .i64 here,.slice (some ⟨b,0,none⟩) n n] w (nK E ns P T kb w k (Em.goOn (Em.aJ d) r here t k)):=by
 obtain ⟨Z,hZ⟩:∃Z,Z=Em.goOn (Em.aJ d) r here t k:=⟨_,rfl⟩
 have HZ:Hid (Z=(Em.Gb (Em.aJ d) here r.states 0 t >>= fun U=>Em.cA (Em.aJ d) r r.order U) k):=hZ
 rw[<-hZ]
 have hr0:=hr
 obtain ⟨gS,aS,cS,vo,hg,aj,hS,ah,hst⟩:=hr
 rw[<-ab] at hg hS
 have g0:=aA hg 0 (u:=.slice aS n cS) rfl
 have Q:Hid (w.heap[g]?=some (.cells #[.slice aS n cS,vo,.int .i64 r.first,.int .i64 r.there,.bool r.idle,.bool r.leaves] 188 (0,0))/\A g/\(0<n->aS=some ⟨gS,0,none⟩/\A gS)/\(∀i s,r.states[i]?=some s->∃gd od,vS A w (fH A d w) gS (i*5) s gd od)/\Od ns (eS ns d) r/\n=r.states.length/\n≤1000000/\Nu A w (fH A d w) r g):=⟨hg,aj,hS,hst,hk,ab,by rw[ab];exact hk.n,hr0⟩
 have HC:Hid (Two E ns P T (fun _=>False) kb b w k P T w k t c/\Ro A (fun x=>P x\/T x) w/\t.length=n/\Nz A kb E ns d):=⟨Two.start h hI hd,hR,hn,ih⟩
 have ar:(n:Int)≤1000000:=by have:=hk.n;omega
 clear h hI hd hR hn ab ih hk hg aj hS ah hst hZ hr0
 go_enter Tryz.func118,Tryz.ntmps118
 go_wp2_with fail
 clear g0
 go_loopg [15] n (fun f i wr=>∃(j:Nat) (kj:Kd) (D:cX),f=n-j/\j≤n/\i=.int .i64 (j:Int)/\Hid (Z=(Em.Gb (Em.aJ d) here (r.states.drop j) j D >>= fun U=>Em.cA (Em.aJ d) r r.order U) kj/\D.length=n/\∃Pj Tj,Two E ns P T (fun _=>False) kb b w k Pj Tj wr kj D (c+2000000*j)))
 case atStart=>exact ⟨0,k,t,by omega,by omega,rfl,HZ.out,HC.out.2.2.1,P,T,HC.out.1⟩
 case round=>
  obtain ⟨j,kj,D,rfl,hj,rfl,hr⟩:=hrel
  obtain ⟨y,J,Pj,Tj,hT⟩:=hr.out
  by_cases hlt:j<n
  ·obtain ⟨s,hs⟩:∃s:eR (St d) (Rg d),r.states[j]?=some s:=⟨_,aE5 (by rw[<-Q.out.2.2.2.2.2.1];exact hlt)⟩
   obtain ⟨gd,od,l⟩:=Q.out.2.2.2.1 j s hs
   have O:=hT.keep HC.out.2.1
   have ac:=l.carry O (fH.carry d O)
   have ae:=lA O Q.out.2.1 Q.out.1
   have g0:=aA ae 0 (u:=.slice aS n cS) rfl
   have am:=Se aS gS n cS j hlt (fun hp=>(Q.out.2.2.1 hp).1)
   have ad:=Q.out.2.2.2.2.1.st s (aH8 hs)
   rw[<-Q.out.2.2.2.2.2.1] at ad
   obtain ⟨oS,af⟩:∃oS,oS=j*5:=⟨_,rfl⟩
   rw[<-af] at ac l am
   obtain ⟨id,hid⟩:∃id,id=s.idle:=⟨_,rfl⟩
   have q3:=ac.idle
   rw[<-hid] at q3
   rw[dT hs] at y
   cases id with
   | true=>
    have an:Hid (Z=(Em.Gb (Em.aJ d) here (r.states.drop (j+1)) (j+1) D >>= fun U=>Em.cA (Em.aJ d) r r.order U) kj/\D.length=n/\∃Pj Tj,Two E ns P T (fun _=>False) kb b w k Pj Tj wr kj D (c+2000000*(j+1))):=⟨y.trans (eH (m':=Em.Gb (Em.aJ d) here (r.states.drop (j+1)) (j+1) D) (Tc hid.symm)),J,Pj,Tj,hT.more (by omega)⟩
    clear hr y J hT O ac l ae ad af hid hs
    go_wp2_with fail
    go_roundg (n-(j+1))
    case measure=>omega
    case rel=>exact ⟨j+1,kj,D,rfl,by omega,by go_num,an.out⟩
   | false=>
    obtain ⟨cj,ag⟩:∃cj,cj=c+2000000*j:=⟨_,rfl⟩
    have ai:Hid (cj=c+2000000*j/\cj≤6000000000000):=⟨ag,by have:=Q.out.2.2.2.2.2.2.1;omega⟩
    rw[<-ag] at hT
    have Y:Hid (Two E ns P T (fun _=>False) kb b w k Pj Tj wr kj D cj):=hT
    have al:=Q8 here j (by omega) hT.cm hE
    have e1:Hid (Z=(Em.is here j >>= fun so=>Em.eT (Em.aJ d) s so D >>= fun U=>Em.Gb (Em.aJ d) here (r.states.drop (j+1)) (j+1) U >>= fun U=>Em.cA (Em.aJ d) r r.order U) kj):=by
     refine y.trans ((eH (aE6 hid.symm)).trans ?_)
     simp only[pA]
    have aa:Hid (vS A w (fH A d w) gS oS s gd od/\B9 ns n (eS ns d) s/\D.length=n):=⟨l,ad,J⟩
    clear hr y J hT O ac l ae ad af hid hs ag
    go_wp2_with (first
     | (go_at_call 163;refine al.mono ?_;rintro e w2 (⟨rfl,I,h1⟩|⟨x2,k2,rfl,I,h1⟩);(· exact ⟨rfl,(.inl ⟨rfl,e1.out.trans (aH I.out),Y.out.bad h1.out⟩)⟩);obtain ⟨P2,S2⟩:∃P2,Hid (Two E ns P T (fun _=>False) kb b w k P2 Tj w2 k2 D (cj)):=⟨_,Y.out.coder h1.out⟩;have e2:Hid _:=e1.out.trans (bind_some I.out);clear I h1 al;have O:=S2.out.keep HC.out.2.1;have ak:=Ta (n:=n) (so:=x2) hE HC.out.2.2.2 (aa.out.1.carry O (fH.carry d O)) aa.out.2.1 S2.out.cm S2.out.im S2.out.dis (S2.out.roU HC.out.2.1) aa.out.2.2 ai.out.2;clear O)
     | (go_at_call 162;refine ak.mono ?_;rintro e w5 h5;rcases h5 with ⟨rfl,I,h1⟩|⟨t5,k5,rfl,I,P5,T5,h5⟩;(· exact ⟨rfl,.inl ⟨rfl,e2.out.trans (aH I.out),S2.out.fr.trans h1.out fun x hx h=>by { rcases h with h|h;exact (S2.out.up x h).1.elim .inl (fun h=>absurd h.1 (by omega));exact (S2.out.ut x h).1.elim .inr (fun h=>absurd h.1 (by omega)) }⟩⟩);have ap:Hid (Z=(Em.Gb (Em.aJ d) here (r.states.drop (j+1)) (j+1) t5 >>= fun U=>Em.cA (Em.aJ d) r r.order U) k5/\t5.length=n/\∃Pj Tj,Two E ns P T (fun _=>False) kb b w k Pj Tj w5 k5 t5 (c+2000000*(j+1))):=⟨e2.out.trans (bind_some I.out),by { rw[Sz I.out];exact aa.out.2.2 },P5,T5,(S2.out.trans h5).more (by { have:=ai.out.1;omega })⟩;clear I h5 ak))
    clear Y e1 S2 e2
    go_roundg (n-(j+1))
    case measure=>omega
    case rel=>exact ⟨j+1,k5,t5,rfl,by omega,by go_num,ap.out⟩
  ·obtain rfl:j=n:=by omega
   have Y:Hid (Two E ns P T (fun _=>False) kb b w k Pj Tj wr kj D (c+2000000*j)):=hT
   have e1:Hid (Z=Em.cA (Em.aJ d) r r.order D kj):=by rw[Hid,y,Q.out.2.2.2.2.2.1,aK8];rfl
   have O:=Y.out.keep HC.out.2.1
   have ao:=tR (n:=j) hE (G0 hE d) (Q.out.2.2.2.2.2.2.2.carry O (fH.carry d O)) Q.out.2.2.2.2.1 Y.out.cm Y.out.im Y.out.dis (Y.out.roU HC.out.2.1) J Q.out.2.2.2.2.2.1 (by omega)
   clear hr y J hT O
   go_wp2_with (go_at_call 164;refine ao.mono ?_;rintro e w6 h6;rcases h6 with ⟨rfl,I,h1⟩|⟨k6,rfl,I,h1⟩;(· exact ⟨rfl,nK.up Y.out e1.out (.inl ⟨rfl,I,h1⟩)⟩))
   go_end0
   exact nK.up Y.out e1.out (.inr ⟨k6,rfl,I,h1⟩)
theorem Tb (hE:E<1000000):∀d,Nz A kb E ns d
 | 0=>fun h=>h.elim
 | d+1=>fun hr hk h hI hd hR hn hc=>Mk hE (Tb hE d) hr hk h hI hd hR hn rfl hc
end
end Ew
end
end Go.Proofs.YthieaobjdpfcoaaGreatDoor
