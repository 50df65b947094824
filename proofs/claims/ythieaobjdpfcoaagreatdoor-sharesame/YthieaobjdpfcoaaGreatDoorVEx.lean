import Derived.Test.YthieaobjdpfcoaaGreatDoorVEu
set_option maxRecDepth 100000
set_option maxHeartbeats 16000000
namespace Go.Proofs.YthieaobjdpfcoaaGreatDoor
open Go.Proofs.Tryz (prog)
section
open Go.RowKit Px
namespace Ew
open Px.Em (Kd Vr eQ eR jP Rg cX)
open Nx (Nt Sp)
section
variable {P T X P1 T1 A:Nat->Prop}{w wr w2:World}{kb b E c d:Nat}{ns:List bE}{k kj k2:Kd}{t:cX}
theorem aH6 (hE:E<1000000) (ih:Nz A kb E ns d) {gS o gd od n:Nat}{s:eR (St d) (Rg d)}{so:Int}(hs:vS A w (fH A d w) gS o s gd od) (hK:B9 ns n (eS ns d) s) (h:eK E ns P w kb k) (hI:xE T w b t c) (hd:∀x,P x->¬T x) (hR:Ro A (fun x=>P x\/T x) w) (hn:t.length=n) (hc:c≤6000000000000) :
 Calls prog 162 #[.pointer (some ⟨kb,0,none⟩),.pointer (some ⟨gS,o,none⟩),.int .i64 so,.slice (some ⟨b,0,none⟩) n n] w (dE E ns P T kb b w k (c+1000000+1000000) (Em.eT (Em.aJ d) s so t k)):=by
 obtain ⟨Z,hZ⟩:=gQx (Em.eT (Em.aJ d) s so t k)
 have e1:Hid (Z=(Em.choose (Em.aJ d) s so fA >>= fun c1=>Em.dU so c1.2 >>= fun dt=>Zq s c1 t dt) k):=by rw[Hid,hZ,Ip]
 rw[<-hZ]
 have HH:Hid (vS A w (fH A d w) gS o s gd od/\B9 ns n (eS ns d) s/\Ro A (fun x=>P x\/T x) w/\t.length=n/\Nz A kb E ns d):=⟨hs,hK,hR,hn,ih⟩
 have S1:Hid (Two E ns P T (fun _=>False) kb b w k P T w k t c):=Two.start h hI hd
 have bp:Calls prog 202 _ w (zR E ns P A n kb w k (Em.choose (Em.aJ d) s so fA k)):=aL0 (so:=so) hE hs hK h (S1.out.ro hR)
 clear h hI hd hR hn hs hK ih hZ
 go_enter Tryz.func162,Tryz.ntmps162
 go_upto_region 1 with (go_at_call 202;refine bp.mono ?_;rintro e w3 (⟨rfl,O,l⟩|⟨Y,ac,k3,ap,an,ao,rfl,O,l⟩);(· exact ⟨rfl,(.inl ⟨rfl,e1.out.trans (aH O.out),S1.out.bad l.out⟩)⟩);have e3:Hid _:=e1.out.trans (bind_some O.out);clear O bp)
 clear e1
 obtain ⟨P3,au,hex,cu⟩:=S1.out.choose l.out.1 l.out.2.2.1
 have kp:=au.keep HH.out.2.2.1
 have ax:=HH.out.1.carry kp (fH.carry d kp)
 obtain ⟨vi,q2,dy⟩:=ax.iy
 obtain ⟨ai,gi,ci,rfl,dd,cn,dm⟩:=dy
 obtain ⟨M,hM⟩:=gQx s.inside.length
 rw[<-hM] at q2 dd cn
 have I:Hid (Two E ns P T (fun _=>False) kb b w k P3 T w3 k3 t c/\qI A w3 (.slice ap an ao) Y/\(∀g,(Value.slice ap an ao).ownBlock=some g->g<w3.heap.size/\¬(P3 g\/T g))/\(∀y∈Y,xK ns n y.1)/\Y.length≤1000000/\vS A w3 (fH A d w3) gS o s gd od/\Ro A (fun x=>P3 x\/T x) w3):=⟨au,l.out.2.1,fun g U=>⟨by obtain ⟨_,hr,_⟩:=l.out.2.1;exact (hr.lt g U).2,hex g U⟩,l.out.2.2.2.1,l.out.2.2.2.2.2,ax,au.roU HH.out.2.2.1⟩
 have HI:Hid ((0<M->ai=some ⟨gi,0,none⟩/\A gi)/\(∀j r,s.inside[j]?=some r->∃gr,w3.cell? ⟨gi,j,none⟩=some (.pointer (some ⟨gr,0,none⟩))/\fH A d w3 r gr)/\M=s.inside.length/\w3.cell? ⟨gS,o+2,none⟩=some (.slice ai M ci)/\A gS):=⟨cn,dm,hM,q2,ax.dA.2⟩
 have S3:Hid (Two E ns P3 T (fun _=>False) kb b w3 k3 P3 T w3 k3 t c):=Two.start au.cm au.im au.dis
 have em:(M:Int)≤1000000:=by have:=HH.out.2.1.il;omega
 have dn:=oL so ac S3.out.cm hE
 clear l au hex cu kp ax q2 cn dm hM dd S1
 go_upto_region 2 with (go_at_call 204;refine dn.mono ?_;rintro e w4 (⟨rfl,O,l⟩|⟨x4,k4,rfl,O,l⟩);(· exact ⟨rfl,dE.up I.out.1 rfl (.inl ⟨rfl,e3.out.trans (aH O.out),S3.out.bad l.out⟩)⟩);obtain ⟨P4,S4⟩:∃P4,Hid (Two E ns P3 T (fun _=>False) kb b w3 k3 P4 T w4 k4 t (c)):=⟨_,S3.out.coder l.out⟩;have e4:Hid _:=e3.out.trans (bind_some O.out);clear O l dn)
 have kp:=S4.out.keep I.out.2.2.2.2.2.2
 have ad:=I.out.2.2.2.2.2.1.carry kp (fH.carry d kp)
 obtain ⟨pr,q6,cr⟩:=ad.re
 have q0:=ad.d
 obtain ⟨Br,ct⟩:∃Br,pr.isSome=Br:=⟨_,rfl⟩
 have ds:∀w,(binOp BinOp.neq 220 (.pointer pr) (.pointer none)).run prog w=.ok (.bool Br) w:=fun w=>by rw[<-ct];exact Qy pr w
 have cz:Hid (Br=!Em.Er s.drawn.rests):=by rw[Hid,<-ct];exact Hx cr
 obtain ⟨B,hB⟩:=gQx ((Br&&(x4 != -1)))
 have HB:Hid (B=(Br&&(x4 != -1))):=hB
 have ed:Hid (jR A w4 s.drawn.rests (.pointer pr)):=cr
 clear kp ad cr ct hB S3 e3
 go_cut [38] (fun dz wx=>Hid (dz=.bool B/\wx=w4))
 case first=>
  cases Br with
  | false=>
   go_wp2_with fail
   go_meet
   case rel=>exact ⟨by rw[HB.out];rfl,rfl⟩
  | true=>
   by_cases hx:x4=-1
   ·have t1:(x4 == -1)=true:=by simpa using hx
    have t2:(x4 != -1)=false:=by simp[hx]
    clear hx
    go_wp2_with fail
    go_meet
    case rel=>exact ⟨by rw[HB.out,t2];rfl,rfl⟩
   ·have t1:(x4 == -1)=false:=by simpa using hx
    have t2:(x4 != -1)=true:=by simp[hx]
    clear hx
    go_wp2_with fail
    go_meet
    case rel=>exact ⟨by rw[HB.out,t2];rfl,rfl⟩
 case rest=>
  obtain ⟨dx,eb⟩:=hcut.out
  subst dx
  subst eb
  clear ds
  go_upto_if 38 with fail
  go_cut [10] (fun dw wx=>∃(on:Int) (km:Kd),dw=.int .i64 on/\Hid (Z=Ux s (Y,ac) t on km/\∃Pm,Two E ns P3 T (fun _=>False) kb b w3 k3 Pm T wx km t c))
  case first=>
   cases B with
   | true=>
    have cy:¬(Em.Er s.drawn.rests=true\/x4=-1):=by
     have l:=HB.out
     rw[cz.out] at l
     rintro (h|h)
     ·rw[h] at l;simp at l
     ·rw[h] at l;simp at l
    have e5:Hid (Z=(Em.eP s.drawn.rests >>= fun x=>Em.bS 0 >>= fun z=>Em.made 17 x z x4 >>= fun on=>Ux s (Y,ac) t on) k4):=by
     rw[Hid,e4.out]
     show Zq s (Y,ac) t x4 k4=_
     unfold Zq
     rw[if_neg cy]
    have S5:=S4
    have hex:=lN (A:=A) (kb:=kb) (ns:=ns) hE s.drawn.rests HH.out.2.1.re ed.out S5.out.cm (S5.out.ro I.out.2.2.2.2.2.2)
    clear cy e4
    go_wp2_with (first
     | (go_at_call 206;refine hex.mono ?_;rintro e w6 (⟨rfl,O,l⟩|⟨x6,k6,rfl,O,l⟩);(· exact ⟨rfl,dE.up I.out.1 rfl (.inl ⟨rfl,e5.out.trans (aH O.out),S5.out.bad l.out⟩)⟩);obtain ⟨P6,S6⟩:∃P6,Hid (Two E ns P3 T (fun _=>False) kb b w3 k3 P6 T w6 k6 t (c)):=⟨_,S5.out.coder l.out⟩;have e6:Hid _:=e5.out.trans (bind_some O.out);clear O l hex;have ck:=dP (n:=0) S6.out.cm hE jF.zero)
     | (go_at_call 207;refine ck.mono ?_;rintro e w7 (⟨rfl,O,l⟩|⟨x7,k7,rfl,O,l⟩);(· exact ⟨rfl,dE.up I.out.1 rfl (.inl ⟨rfl,e6.out.trans (aH O.out),S6.out.bad l.out⟩)⟩);obtain ⟨P7,S7⟩:∃P7,Hid (Two E ns P3 T (fun _=>False) kb b w3 k3 P7 T w7 k7 t (c)):=⟨_,S6.out.coder l.out⟩;have e7:Hid _:=e6.out.trans (bind_some O.out);clear O l ck;have bu:=gU 17 x6 x7 x4 S7.out.cm hE)
     | (go_at_call 205;refine bu.mono ?_;rintro e w8 (⟨rfl,O,l⟩|⟨x8,k8,rfl,O,l⟩);(· exact ⟨rfl,dE.up I.out.1 rfl (.inl ⟨rfl,e7.out.trans (aH O.out),S7.out.bad l.out⟩)⟩);obtain ⟨P8,S8⟩:∃P8,Hid (Two E ns P3 T (fun _=>False) kb b w3 k3 P8 T w8 k8 t (c)):=⟨_,S7.out.coder l.out⟩;have e8:Hid _:=e7.out.trans (bind_some O.out);clear O l bu))
    go_meet
    case rel=>exact ⟨x8,k8,rfl,e8.out,P8,S8.out⟩
   | false=>
    have cg:Em.Er s.drawn.rests=true\/x4=-1:=by
     have l:=HB.out
     rw[cz.out] at l
     cases h2:Em.Er s.drawn.rests with
     | true=>exact .inl rfl
     | false=>rw[h2] at l;exact .inr (by simpa using l)
    have bb:Hid (Z=Ux s (Y,ac) t x4 k4/\∃Pm,Two E ns P3 T (fun _=>False) kb b w3 k3 Pm T wc k4 t c):=by
     refine ⟨?_,P4,S4.out⟩
     rw[e4.out]
     show Zq s (Y,ac) t x4 k4=_
     unfold Zq
     rw[if_pos cg]
    clear cg e4 S4
    go_wp2_with fail
    go_meet
    case rel=>exact ⟨x4,k4,rfl,bb.out⟩
  case rest=>
   obtain ⟨on,km,rfl,hc⟩:=hcut
   obtain ⟨dq,Pm,db⟩:=hc.out
   have S9:Hid (Two E ns P3 T (fun _=>False) kb b w3 k3 Pm T wc km t c):=db
   have e9:Hid (Z=(Em.vM on s.drawn.during >>= fun _=>Em.pZ (Em.aJ d) on s.inside >>= fun _=>Em.choose (Em.aJ d) s on fB >>= fun c2=>Oc s (Y,ac) c2 t) km):=dq
   have kp:=S9.out.keep I.out.2.2.2.2.2.2
   have ad:=I.out.2.2.2.2.2.1.carry kp (fH.carry d kp)
   obtain ⟨vd,q4,cq⟩:=ad.du
   have r0:=ad.d
   have bg:=aA8 (so:=on) HH.out.2.1.du cq S9.out.cm (S9.out.ro I.out.2.2.2.2.2.2) hE
   obtain ⟨va,vn,vc,rfl⟩:=cq.sl'
   clear hc dq db kp ad cq S4 e4
   go_upto_region 5 with (go_at_call 208;refine bg.mono ?_;rintro e dj (⟨rfl,O,l⟩|⟨_,cc,rfl,O,l⟩);(· exact ⟨rfl,dE.up I.out.1 rfl (.inl ⟨rfl,e9.out.trans (aH O.out),S9.out.bad l.out⟩)⟩);obtain ⟨cv,co⟩:∃cv,Hid (Two E ns P3 T (fun _=>False) kb b w3 k3 cv T dj cc t (c)):=⟨_,S9.out.coder l.out⟩;have e10:Hid _:=e9.out.trans (bind_some O.out);clear O l bg)
   obtain ⟨D,hD⟩:∃D:Unit->Em.M cX,D=fun _=>Em.choose (Em.aJ d) s on fB >>= fun c2=>Oc s (Y,ac) c2 t:=⟨_,rfl⟩
   have HD:Hid (D=fun _=>Em.choose (Em.aJ d) s on fB >>= fun c2=>Oc s (Y,ac) c2 t):=hD
   have q2:=cL (co.out.keep I.out.2.2.2.2.2.2) HI.out.2.2.2.2 HI.out.2.2.2.1
   have de:Hid (Z=(Em.pZ (Em.aJ d) on (s.inside.drop 0) >>= D) cc/\∃Pj,Two E ns P3 T (fun _=>False) kb b w3 k3 Pj T dj cc t c):=⟨by rw[hD];exact e10.out,cv,co.out⟩
   clear hD S9 e9 co e10 q4 r0
   go_wp2_with fail
   clear q2
   go_loopg [69] M (fun f i wr=>∃(j:Nat) (kj:Kd),f=M-j/\j≤M/\i=.int .i64 (j:Int)/\Hid (Z=(Em.pZ (Em.aJ d) on (s.inside.drop j) >>= D) kj/\∃Pj,Two E ns P3 T (fun _=>False) kb b w3 k3 Pj T wr kj t c))
   case atStart=>exact ⟨0,cc,by omega,by omega,rfl,de.out⟩
   case round=>
    obtain ⟨j,kj,rfl,hj,rfl,hr⟩:=hrel
    obtain ⟨am,P0,hT⟩:=hr.out
    by_cases hlt:j<M
    ·obtain ⟨r,bc⟩:∃r:Rg d,s.inside[j]?=some r:=⟨s.inside[j]'(by rw[<-HI.out.2.2.1];exact hlt),aN4 _⟩
     obtain ⟨gr,c0,aw⟩:=HI.out.2.1 j r bc
     have kp:=hT.keep I.out.2.2.2.2.2.2
     have dr:=Xp ai gi M ci j hlt (fun Q=>(HI.out.1 Q).1)
     have c0:=cL kp (HI.out.1 (by omega)).2 c0
     have aw:=fH.carry d kp _ _ aw
     have bh:=HH.out.2.1.sub r (aP1 bc)
     obtain ⟨cb,ce,az,vo,fi,lv,ar,hsz⟩:=fH.cells d aw bh
     obtain ⟨id,hid⟩:=gQx ((Em.aJ d).idle r)
     obtain ⟨nn,be⟩:=gQx ((Em.aJ d).size r)
     obtain ⟨th,br⟩:=gQx ((Em.aJ d).there r)
     rw[<-hid,<-be,<-br] at ar
     have g4:=aF ar 4 (u:=.bool id) rfl
     rw[dT bc] at am
     by_cases hskip:on=-1\/id=true
     ·have bb:Hid (Z=(Em.pZ (Em.aJ d) on (s.inside.drop (j+1)) >>= D) kj/\∃Pj,Two E ns P3 T (fun _=>False) kb b w3 k3 Pj T wr kj t c):=⟨am.trans (eH (m':=Em.pZ (Em.aJ d) on (s.inside.drop (j+1))) (Ml (by rw[<-hid];exact hskip))),P0,hT⟩
      by_cases ak:on=-1
      ·have t1:(on == -1)=true:=by simpa using ak
       have t2:(on != -1)=false:=by simp[ak]
       clear hr am hT kp aw bh ar hid be br hskip ak bc cb
       go_wp2_with fail
       go_roundg (M-(j+1))
       case measure=>omega
       case rel=>exact ⟨j+1,kj,rfl,by omega,by go_num,bb.out⟩
      ·have t1:(on == -1)=false:=by simpa using ak
       have t2:(on != -1)=true:=by simp[ak]
       obtain rfl:id=true:=by rcases hskip with h|h;exact absurd h ak;exact h
       clear hr am hT kp aw bh ar hid be br hskip ak bc cb
       go_wp2_with fail
       go_roundg (M-(j+1))
       case measure=>omega
       case rel=>exact ⟨j+1,kj,rfl,by omega,by go_num,bb.out⟩
     ·have ak:¬on=-1:=fun h=>hskip (.inl h)
      have t1:(on == -1)=false:=by simpa using ak
      have t2:(on != -1)=true:=by simp[ak]
      obtain rfl:id=false:=by cases id;rfl;exact absurd (.inr rfl) hskip
      have g0:=aF ar 0 (u:=.slice ce nn az) rfl
      have g3:=aF ar 3 (u:=.int .i64 th) rfl
      have eh:∀ob,(wr.alloc ob).cell? ⟨gr,3,none⟩=some (.int .i64 th):=fun ob=>aN (aL wr ob) g3
      have e10:Hid (Z=(Em.given on th >>= fun h=>(Em.aJ d).goOn r h (List.replicate ((Em.aJ d).size r) []) >>= fun _=>Em.pZ (Em.aJ d) on (s.inside.drop (j+1)) >>= D) kj):=by
       rw[Hid,br]
       refine am.trans ((eH (Ya (by rw[<-hid];exact hskip))).trans ?_)
       simp only[pA]
      have eg:∀W,(Instr.makeSlice 190 (.int .i64 (nn:Int)) (.int .i64 (nn:Int))).run prog W=.ok (.slice (some ⟨W.heap.size,0,none⟩) nn nn) (W.alloc (.cells (List.replicate nn (Value.slice none 0 0)).toArray 238)):=fun W=>Rh W nn (by rw[be];exact hsz)
      have cx:=hT.ro I.out.2.2.2.2.2.2
      have ec:∀W,Below wr.heap.size wr W->Calls prog 209 #[.pointer (some ⟨kb,0,none⟩),.int .i64 on,.int .i64 th] W (fJ E ns P0 kb W kj (Em.given on th kj) (Value.int .i64)):=fun W hb=>aA2 on th (hT.cm.below hb) hE
      have HG:Hid (Two E ns P3 T (fun _=>False) kb b w3 k3 P0 T wr kj t c/\wr.heap[gr]?=some (.cells #[.slice ce nn az,vo,.int .i64 fi,.int .i64 th,.bool false,.bool lv] 188 (0,0))/\(∀x,P0 x->x<wr.heap.size)/\Ro A P0 wr/\fH A d wr r gr/\eS ns d r/\¬P0 gr):=⟨hT,ar,hT.cm.2.2,cx,aw,bh,(cx gr cb).2⟩
      have bo:Below wr.heap.size wr wr.drew:=⟨rfl,rfl,rfl,aO4 _,fun _ _=>rfl⟩
      have cd:∀ob,Below wr.heap.size wr (wr.drew.alloc ob):=fun ob=>aQ bo (aL wr.drew ob)
      have ca:∀ob,Below wr.heap.size wr (wr.alloc ob).drew:=fun ob=>(aL wr ob).drew
      have ej:Hid (nn=(Em.aJ d).size r):=be
      have df:Hid (∀ob,(wr.drew.alloc ob).heap.size=wr.heap.size+1/\(wr.alloc ob).drew.heap.size=wr.heap.size+1):=fun ob=>⟨by simp,by simp⟩
      clear hr am hT kp aw bh ar hid br hskip ak bc cb cx
      subst be
      go_upto_region 9 with fail
      clear t1 t2 g4 dr c0
      go_region_law (first
       | (go_simp;go_at_call 209;refine (ec _ (by first|exact bo|exact cd _|exact ca _)).mono ?_;rintro e ah (⟨rfl,O,l⟩|⟨x11,dh,rfl,O,l⟩);(· exact ⟨rfl,dE.up I.out.1 rfl (.inl ⟨rfl,e10.out.trans (aH O.out),HG.out.1.bad ((bM.of_below (by first|exact bo|exact cd _|exact ca _)).trans l.out fun _ _ h=>h)⟩)⟩)
          have e11:Hid _:=e10.out.trans (bind_some O.out)
          have da:ah.heap[gr]?=some (.cells #[.slice ce ((Em.aJ d).size r) az,vo,.int .i64 fi,.int .i64 th,.bool false,.bool lv] 188 (0,0)):=l.out.2.1.heap (by first|exact aD bo HG.out.2.1|exact aD (cd _) HG.out.2.1|exact aD (ca _) HG.out.2.1) HG.out.2.2.2.2.2.2
          have z0:=aF da 0 (u:=.slice ce ((Em.aJ d).size r) az) rfl
          first
           | (have cf:=zB (here:=x11) (b':=wr.heap.size) HH.out.2.2.2.2 HG.out.2.2.1 (cd _) l.out (Below.refl _ _) ⟨aO4 _,fun hu=>hu.elim (fun h=>absurd (HG.out.2.2.1 _ h) (by omega)) fun h=>absurd h.1 (by rw[(df.out _).1];omega)⟩ (l.out.2.1.heap (aX wr.drew _) (fun h=>absurd (HG.out.2.2.1 _ h) (Nat.lt_irrefl _))) HG.out.2.2.2.1 HG.out.2.2.2.2.1 HG.out.2.2.2.2.2.1)
           | (have cf:=zB (here:=x11) (b':=wr.heap.size) HH.out.2.2.2.2 HG.out.2.2.1 (ca _) l.out (Below.refl _ _) ⟨aO4 _,fun hu=>hu.elim (fun h=>absurd (HG.out.2.2.1 _ h) (by omega)) fun h=>absurd h.1 (by rw[(df.out _).2];omega)⟩ (l.out.2.1.heap (show (wr.alloc _).drew.heap[wr.heap.size]?=_ from aX wr _) (fun h=>absurd (HG.out.2.2.1 _ h) (Nat.lt_irrefl _))) HG.out.2.2.2.1 HG.out.2.2.2.2.1 HG.out.2.2.2.2.2.1)
           | (have cf:=zB (here:=x11) (b':=ah.heap.size) (W':=ah.alloc (.cells (Array.replicate ((Em.aJ d).size r) (Value.slice none 0 0)) 238)) HH.out.2.2.2.2 HG.out.2.2.1 bo l.out (aL _ _) ⟨l.out.2.1.size,fun hu=>absurd (l.out.1.2.2 _ hu) (Nat.lt_irrefl _)⟩ (aX _ _) HG.out.2.2.2.1 HG.out.2.2.2.2.1 HG.out.2.2.2.2.2.1)
          clear O l da)
       | (go_simp;go_at_call 118;refine cf.mono ?_;rintro e dp ea;rcases ea with ⟨rfl,O,l⟩|⟨k12,rfl,O,l⟩;(· exact ⟨rfl,dE.up I.out.1 rfl (.inl ⟨rfl,e11.out.trans (aH O.out),HG.out.1.bad l.out⟩)⟩);obtain ⟨cp,dk⟩:∃cp,Hid (Two E ns P3 T (fun _=>False) kb b w3 k3 cp T dp k12 t c):=⟨_,HG.out.1.coder l.out⟩;have e12:Hid _:=e11.out.trans (bind_some O.out);clear O l cf))
      all_goals
       have bb:Hid (Z=(Em.pZ (Em.aJ d) on (s.inside.drop (j+1)) >>= D) k12/\∃Pj,Two E ns P3 T (fun _=>False) kb b w3 k3 Pj T dp k12 t c):=⟨e12.out,cp,dk.out⟩
       clear e10 e11 e12 dk HG
       go_wp2_with fail
       go_roundg (M-(j+1))
       case measure=>omega
       case rel=>exact ⟨j+1,k12,rfl,by omega,by go_num,bb.out⟩
    ·obtain rfl:j=M:=by omega
     have S5:Hid (Two E ns P3 T (fun _=>False) kb b w3 k3 P0 T wr kj t c):=hT
     have e5:Hid (Z=(Em.choose (Em.aJ d) s on fB >>= fun c2=>Oc s (Y,ac) c2 t) kj):=by
      rw[Hid,am,HD.out,HI.out.2.2.1,aR4];rfl
     have kp:=hT.keep I.out.2.2.2.2.2.2
     have bp:Calls prog 202 _ wr (zR E ns P0 A n kb wr kj (Em.choose (Em.aJ d) s on fB kj)):=aK8 (so:=on) hE (I.out.2.2.2.2.2.1.carry kp (fH.carry d kp)) HH.out.2.1 S5.out.cm (S5.out.ro I.out.2.2.2.2.2.2)
     clear hr am hT kp de
     go_upto_region 12 with (go_at_call 202;refine bp.mono ?_;rintro e w6 (⟨rfl,O,l⟩|⟨af,bz,k6,ae,aa,ab,rfl,O,l⟩);(· exact ⟨rfl,dE.up I.out.1 rfl (.inl ⟨rfl,e5.out.trans (aH O.out),S5.out.bad l.out⟩)⟩);have e6:Hid _:=e5.out.trans (bind_some O.out);clear O bp)
     obtain ⟨P6,al,hex,cu⟩:=S5.out.choose l.out.1 l.out.2.2.1
     have kp:=al.keep I.out.2.2.2.2.2.2
     have ay:=I.out.2.2.2.2.2.1.carry kp (fH.carry d kp)
     have J:Hid (Two E ns P3 T (fun _=>False) kb b w3 k3 P6 T w6 k6 t c/\qI A w6 (.slice ae aa ab) af/\(∀g,(Value.slice ae aa ab).ownBlock=some g->g<w6.heap.size/\¬(P6 g\/T g))/\(∀y∈af,xK ns n y.1)/\af.length≤1000000/\qI A w6 (.slice ap an ao) Y/\(∀g,(Value.slice ap an ao).ownBlock=some g->g<w6.heap.size/\¬(P6 g\/T g))/\vS A w6 (fH A d w6) gS o s gd od/\Ro A (fun x=>P6 x\/T x) w6):=by
      refine ⟨al,l.out.2.1,fun g U=>⟨by obtain ⟨_,hr,_⟩:=l.out.2.1;exact (hr.lt g U).2,hex g U⟩,l.out.2.2.2.1,l.out.2.2.2.2.2,I.out.2.1.keep kp (fun g U=>al.fr.block g (I.out.2.2.1 g U).1 (I.out.2.2.1 g U).2),fun g U=>⟨aO5 (I.out.2.2.1 g U).1 al.fr.size,fun Q=>?_⟩,ay,al.roU I.out.2.2.2.2.2.2⟩
      have hq:=I.out.2.2.1 g U
      rcases Q with Q|Q
      ·exact (al.up g Q).1.elim (fun h=>hq.2 (.inl h)) fun h=>absurd h.1 (by omega)
      ·exact hq.2 (.inr Q)
     have S6:Hid (Two E ns P6 T (fun _=>False) kb b w6 k6 P6 T w6 k6 t c):=Two.start al.cm al.im al.dis
     have q4:=ay.leaves
     obtain ⟨lv,bw⟩:=gQx s.leaves
     rw[<-bw] at q4
     have dl:Hid True:=trivial
     clear l al hex cu kp S5 e5
     cases lv with
     | false=>
      have e7:Hid (Z=(Em.take Y t >>= fun t'=>Em.take af t') k6):=by
       rw[Hid,e6.out]
       show Oc s (Y,ac) (af,bz) t k6=_
       unfold Oc
       rw[<-bw,if_neg (by simp)]
       rfl
      have S7:=S6
      clear e6 bw ay S6
      have ks:=S7.out.keep J.out.2.2.2.2.2.2.2.2
      have bj:qI A w6 (.slice ap an ao) Y:=J.out.2.2.2.2.2.1.keep ks fun g U=>S7.out.fr.block g (J.out.2.2.2.2.2.2.1 g U).1 (J.out.2.2.2.2.2.2.1 g U).2
      have bk:qI A w6 (.slice ae aa ab) af:=J.out.2.1.keep ks fun g U=>S7.out.fr.block g (J.out.2.2.1 g U).1 (J.out.2.2.1 g U).2
      have hx1:∀g,(Value.slice ap an ao).ownBlock=some g->¬(P6 g\/T g):=fun g U Q=>by
       have hq:=J.out.2.2.2.2.2.2.1 g U
       rcases Q with Q|Q
       ·exact (S7.out.up g Q).1.elim (fun h=>hq.2 (.inl h)) fun h=>absurd h.1 (by omega)
       ·exact hq.2 (.inr Q)
      have bf:∀g,(Value.slice ae aa ab).ownBlock=some g->¬(P6 g\/T g)/\g<w6.heap.size:=fun g U=>by
       have hq:=J.out.2.2.1 g U
       refine ⟨fun Q=>?_,aO5 hq.1 S7.out.fr.size⟩
       rcases Q with Q|Q
       ·exact (S7.out.up g Q).1.elim (fun h=>hq.2 (.inl h)) fun h=>absurd h.1 (by omega)
       ·exact hq.2 (.inr Q)
      have av:=S7.out.roU J.out.2.2.2.2.2.2.2.2
      have bq:=dS (n:=n) hE bj hx1 I.out.2.2.2.1 HH.out.2.2.2.1 I.out.2.2.2.2.1 S7.out.cm S7.out.im S7.out.dis av (by omega)
      have HT:Hid (qI A w6 (.slice ae aa ab) af/\(∀g,(Value.slice ae aa ab).ownBlock=some g->¬(P6 g\/T g)/\g<w6.heap.size)/\Ro A (fun x=>P6 x\/T x) w6):=⟨bk,bf,av⟩
      clear ks bj bk hx1 bf av
      go_wp2_with (first
       | (clear dl;go_at_call 213;refine bq.mono ?_;rintro e bv (⟨rfl,O,l⟩|⟨t7,k7,rfl,O,P7,T7,h7⟩);(· exact ⟨rfl,dE.up I.out.1 rfl (dE.up J.out.1 rfl (dE.up S7.out e7.out (.inl ⟨rfl,aH O.out,l⟩)))⟩);have H7:Hid _:=h7;have E7:Hid _:=O.out;have kq:bB A A w6 bv:=h7.keep HT.out.2.2;have bn:qI A bv (.slice ae aa ab) af:=HT.out.1.keep kq (fun g U=>h7.fr.block g (HT.out.2.1 g U).2 (HT.out.2.1 g U).1);have bm:∀g,(Value.slice ae aa ab).ownBlock=some g->¬(P7 g\/T7 g):=(fun g U Q=>by { have hq:=HT.out.2.1 g U;rcases Q with Q|Q;exact (h7.up g Q).1.elim (fun h=>hq.1 (.inl h)) (fun h=>absurd h.1 (by omega));exact (h7.ut g Q).1.elim (fun h=>hq.1 (.inr h)) (fun h=>absurd h.1 (by omega)) });have bi:=dS (n:=n) hE bn bm J.out.2.2.2.1 (by rw[jX O.out];exact HH.out.2.2.2.1) J.out.2.2.2.2.1 h7.cm h7.im h7.dis (h7.roU HT.out.2.2) (by omega);clear O h7 kq bn bm bq)
       | (go_at_call 213;refine bi.mono ?_;rintro e ee h8;rcases h8 with ⟨rfl,O,l⟩|⟨t8,k8,rfl,O,l⟩;(· exact ⟨rfl,dE.up I.out.1 rfl (dE.up J.out.1 rfl (dE.up S7.out e7.out (dE.up H7.out (bind_some E7.out) (.inl ⟨rfl,O,l⟩))))⟩)))
      go_end0
      exact dE.up I.out.1 rfl (dE.up J.out.1 rfl (dE.up S7.out e7.out (dE.up H7.out (bind_some E7.out) (.inr ⟨t8,k8,rfl,O,l⟩))))
     | true=>
      have e7:Hid (Z=(Em.uZ ac bz >>= fun gone=>Em.dI (Em.aJ d) s.inside gone >>= fun _=>Em.vM gone s.drawn.leave >>= fun _=>Em.take Y t >>= fun t'=>Em.take af t') k6):=by
       rw[Hid,e6.out]
       show Oc s (Y,ac) (af,bz) t k6=_
       unfold Oc
       rw[<-bw,if_pos rfl]
       rfl
      have S7:=S6
      have dc:=pS ac bz S7.out.cm hE
      clear e6 bw ay S6
      go_upto_region 14 with (go_at_call 211;refine dc.mono ?_;rintro e w8 (⟨rfl,O,l⟩|⟨x8,k8,rfl,O,l⟩);(· exact ⟨rfl,dE.up I.out.1 rfl (dE.up J.out.1 rfl (.inl ⟨rfl,e7.out.trans (aH O.out),S7.out.bad l.out⟩))⟩);obtain ⟨P8,S8⟩:∃P8,Hid (Two E ns P6 T (fun _=>False) kb b w6 k6 P8 T w8 k8 t (c)):=⟨_,S7.out.coder l.out⟩;have e8:Hid _:=e7.out.trans (bind_some O.out);clear O l dc)
      clear S7 e7 q4
      have kp:=S8.out.keep J.out.2.2.2.2.2.2.2.2
      have ad:=J.out.2.2.2.2.2.2.2.1.carry kp (fH.carry d kp)
      obtain ⟨vj,q2,di⟩:=ad.iy
      have ch:=Yg hE d (so:=x8) di HH.out.2.1.sub S8.out.cm (S8.out.ro J.out.2.2.2.2.2.2.2.2)
      obtain ⟨aj,gj,cj,rfl,_⟩:=di
      clear kp ad
      go_upto_region 15 with (go_at_call 212;refine ch.mono ?_;rintro e w9 (⟨rfl,O,l⟩|⟨_,k9,rfl,O,l⟩);(· exact ⟨rfl,dE.up I.out.1 rfl (dE.up J.out.1 rfl (.inl ⟨rfl,e8.out.trans (aH O.out),S8.out.bad l.out⟩))⟩);obtain ⟨P9,S9⟩:∃P9,Hid (Two E ns P6 T (fun _=>False) kb b w6 k6 P9 T w9 k9 t (c)):=⟨_,S8.out.coder l.out⟩;have e9:Hid _:=e8.out.trans (bind_some O.out);clear O l ch)
      clear S8 e8 q2
      have kp:=S9.out.keep J.out.2.2.2.2.2.2.2.2
      have ad:=J.out.2.2.2.2.2.2.2.1.carry kp (fH.carry d kp)
      obtain ⟨vl,q5,cw⟩:=ad.le
      have r0:=ad.d
      have bg:=aA8 (so:=x8) HH.out.2.1.le cw S9.out.cm (S9.out.ro J.out.2.2.2.2.2.2.2.2) hE
      obtain ⟨ef,ek,ei,rfl⟩:=cw.sl'
      clear kp ad cw
      go_upto_region 16 with (go_at_call 208;refine bg.mono ?_;rintro e ah (⟨rfl,O,l⟩|⟨_,dh,rfl,O,l⟩);(· exact ⟨rfl,dE.up I.out.1 rfl (dE.up J.out.1 rfl (.inl ⟨rfl,e9.out.trans (aH O.out),S9.out.bad l.out⟩))⟩);obtain ⟨ba,ag⟩:∃ba,Hid (Two E ns P6 T (fun _=>False) kb b w6 k6 ba T ah dh t (c)):=⟨_,S9.out.coder l.out⟩;have e11:Hid _:=e9.out.trans (bind_some O.out);clear O l bg)
      clear S9 e9 q5 r0
      have ks:=ag.out.keep J.out.2.2.2.2.2.2.2.2
      have bj:qI A ah (.slice ap an ao) Y:=J.out.2.2.2.2.2.1.keep ks fun g U=>ag.out.fr.block g (J.out.2.2.2.2.2.2.1 g U).1 (J.out.2.2.2.2.2.2.1 g U).2
      have bk:qI A ah (.slice ae aa ab) af:=J.out.2.1.keep ks fun g U=>ag.out.fr.block g (J.out.2.2.1 g U).1 (J.out.2.2.1 g U).2
      have hx1:∀g,(Value.slice ap an ao).ownBlock=some g->¬(ba g\/T g):=fun g U Q=>by
       have hq:=J.out.2.2.2.2.2.2.1 g U
       rcases Q with Q|Q
       ·exact (ag.out.up g Q).1.elim (fun h=>hq.2 (.inl h)) fun h=>absurd h.1 (by omega)
       ·exact hq.2 (.inr Q)
      have bf:∀g,(Value.slice ae aa ab).ownBlock=some g->¬(ba g\/T g)/\g<ah.heap.size:=fun g U=>by
       have hq:=J.out.2.2.1 g U
       refine ⟨fun Q=>?_,aO5 hq.1 ag.out.fr.size⟩
       rcases Q with Q|Q
       ·exact (ag.out.up g Q).1.elim (fun h=>hq.2 (.inl h)) fun h=>absurd h.1 (by omega)
       ·exact hq.2 (.inr Q)
      have av:=ag.out.roU J.out.2.2.2.2.2.2.2.2
      have bq:=dS (n:=n) hE bj hx1 I.out.2.2.2.1 HH.out.2.2.2.1 I.out.2.2.2.2.1 ag.out.cm ag.out.im ag.out.dis av (by omega)
      have HT:Hid (qI A ah (.slice ae aa ab) af/\(∀g,(Value.slice ae aa ab).ownBlock=some g->¬(ba g\/T g)/\g<ah.heap.size)/\Ro A (fun x=>ba x\/T x) ah):=⟨bk,bf,av⟩
      clear ks bj bk hx1 bf av
      go_wp2_with (first
       | (clear dl;go_at_call 213;refine bq.mono ?_;rintro e bv (⟨rfl,O,l⟩|⟨t7,k7,rfl,O,P7,T7,h7⟩);(· exact ⟨rfl,dE.up I.out.1 rfl (dE.up J.out.1 rfl (dE.up ag.out e11.out (.inl ⟨rfl,aH O.out,l⟩)))⟩);have H7:Hid _:=h7;have E7:Hid _:=O.out;have kq:bB A A ah bv:=h7.keep HT.out.2.2;have bn:qI A bv (.slice ae aa ab) af:=HT.out.1.keep kq (fun g U=>h7.fr.block g (HT.out.2.1 g U).2 (HT.out.2.1 g U).1);have bm:∀g,(Value.slice ae aa ab).ownBlock=some g->¬(P7 g\/T7 g):=(fun g U Q=>by { have hq:=HT.out.2.1 g U;rcases Q with Q|Q;exact (h7.up g Q).1.elim (fun h=>hq.1 (.inl h)) (fun h=>absurd h.1 (by omega));exact (h7.ut g Q).1.elim (fun h=>hq.1 (.inr h)) (fun h=>absurd h.1 (by omega)) });have bi:=dS (n:=n) hE bn bm J.out.2.2.2.1 (by rw[jX O.out];exact HH.out.2.2.2.1) J.out.2.2.2.2.1 h7.cm h7.im h7.dis (h7.roU HT.out.2.2) (by omega);clear O h7 kq bn bm bq)
       | (go_at_call 213;refine bi.mono ?_;rintro e ee h8;rcases h8 with ⟨rfl,O,l⟩|⟨t8,k8,rfl,O,l⟩;(· exact ⟨rfl,dE.up I.out.1 rfl (dE.up J.out.1 rfl (dE.up ag.out e11.out (dE.up H7.out (bind_some E7.out) (.inl ⟨rfl,O,l⟩))))⟩)))
      go_end0
      exact dE.up I.out.1 rfl (dE.up J.out.1 rfl (dE.up ag.out e11.out (dE.up H7.out (bind_some E7.out) (.inr ⟨t8,k8,rfl,O,l⟩))))
end
section
variable {P T X P1 T1 A:Nat->Prop}{w wr w2:World}{kb b E c d:Nat}{ns:List bE}{k kj k2:Kd}{t:cX}
theorem Sz {s:eR (St d) (Rg d)}{so:Int}{j:cX}{n:Kd}(h:Em.eT (Em.aJ d) s so t k=some (j,n)):j.length=t.length:=by
 rw[Ip] at h
 obtain ⟨c1,I,_,h⟩:=cV h
 obtain ⟨on,J,_,h⟩:=cV h
 have r:∀{c2:List (eQ×Int)×Int}{k:Kd},Zs c1 c2 t k=some (j,n)->j.length=t.length:=fun {c2 k} h=>by
  obtain ⟨D,O,l,u⟩:=cV h
  rw[jX u,jX l]
 have y:∀{c2:List (eQ×Int)×Int}{k:Kd},Oc s c1 c2 t k=some (j,n)->j.length=t.length:=fun {c2 k} h=>by
  unfold Oc at h
  split at h
  ·obtain ⟨_,_,_,h⟩:=cV h
   obtain ⟨_,_,_,h⟩:=cV h
   obtain ⟨_,_,_,h⟩:=cV h
   exact r h
  ·exact r h
 have l:∀{on:Int}{k:Kd},Ux s c1 t on k=some (j,n)->j.length=t.length:=fun {bk k} h=>by
  obtain ⟨_,_,_,h⟩:=cV h
  obtain ⟨_,_,_,h⟩:=cV h
  obtain ⟨_,_,_,h⟩:=cV h
  exact y h
 unfold Zq at h
 split at h
 ·exact l h
 ·obtain ⟨_,_,_,h⟩:=cV h
  obtain ⟨_,_,_,h⟩:=cV h
  obtain ⟨_,_,_,h⟩:=cV h
  exact l h
theorem Tc {here:Int}{s:eR (St d) (Rg d)}{l:List (eR (St d) (Rg d))}{i:Nat}(h:s.idle=true):Em.Gb (Em.aJ d) here (s::l) i t k=Em.Gb (Em.aJ d) here l (i+1) t k:=by rw[Em.Gb,if_pos h]
theorem aE6 {here:Int}{s:eR (St d) (Rg d)}{l:List (eR (St d) (Rg d))}{i:Nat}(h:s.idle=false):Em.Gb (Em.aJ d) here (s::l) i t k=(Em.is here i >>= fun so=>Em.eT (Em.aJ d) s so t >>= fun t'=>Em.Gb (Em.aJ d) here l (i+1) t') k:=by rw[Em.Gb,if_neg (by rw[h];simp)]
theorem aH3 (hE:E<1000000) (ih:Nz A kb E ns d) {r:jP (St d) (Rg d)}{g n:Nat}{here:Int}(hr:Nu A w (fH A d w) r g) (hk:Od ns (eS ns d) r) (h:eK E ns P w kb k) (hI:xE T w b t c) (hd:∀x,P x->¬T x) (hR:Ro A (fun x=>P x\/T x) w) (hn:t.length=n) (aa:n=r.states.length) (hc:c≤2000000) :
 Calls prog 118 #[.pointer (some ⟨kb,0,none⟩),.pointer (some ⟨g,0,none⟩),.int .i64 here,.slice (some ⟨b,0,none⟩) n n] w (nK E ns P T kb w k (Em.goOn (Em.aJ d) r here t k)):=by
 obtain ⟨Z,hZ⟩:=gQx (Em.goOn (Em.aJ d) r here t k)
 have HZ:Hid (Z=(Em.Gb (Em.aJ d) here r.states 0 t >>= fun U=>Em.dX (Em.aJ d) r r.order U) k):=hZ
 rw[<-hZ]
 have hr0:=hr
 obtain ⟨gS,aS,cS,vo,hg,ah,hS,aj,al⟩:=hr
 rw[<-aa] at hg hS
 have g0:=aF hg 0 (u:=.slice aS n cS) rfl
 have Q:Hid (w.heap[g]?=some (.cells #[.slice aS n cS,vo,.int .i64 r.first,.int .i64 r.there,.bool r.idle,.bool r.leaves] 188 (0,0))/\A g/\(0<n->aS=some ⟨gS,0,none⟩/\A gS)/\(∀i s,r.states[i]?=some s->∃gd od,vS A w (fH A d w) gS (i*5) s gd od)/\Od ns (eS ns d) r/\n=r.states.length/\n≤1000000/\Nu A w (fH A d w) r g):=⟨hg,ah,hS,al,hk,aa,by rw[aa];exact hk.n,hr0⟩
 have HC:Hid (Two E ns P T (fun _=>False) kb b w k P T w k t c/\Ro A (fun x=>P x\/T x) w/\t.length=n/\Nz A kb E ns d):=⟨Two.start h hI hd,hR,hn,ih⟩
 have au:(n:Int)≤1000000:=by have:=hk.n;omega
 clear h hI hd hR hn aa ih hk hg ah hS aj al hZ hr0
 go_enter Tryz.func118,Tryz.ntmps118
 go_wp2_with fail
 clear g0
 go_loopg [15] n (fun f i wr=>∃(j:Nat) (kj:Kd) (D:cX),f=n-j/\j≤n/\i=.int .i64 (j:Int)/\Hid (Z=(Em.Gb (Em.aJ d) here (r.states.drop j) j D >>= fun U=>Em.dX (Em.aJ d) r r.order U) kj/\D.length=n/\∃Pj Tj,Two E ns P T (fun _=>False) kb b w k Pj Tj wr kj D (c+2000000*j)))
 case atStart=>exact ⟨0,k,t,by omega,by omega,rfl,HZ.out,HC.out.2.2.1,P,T,HC.out.1⟩
 case round=>
  obtain ⟨j,kj,D,rfl,hj,rfl,hr⟩:=hrel
  obtain ⟨y,J,Pj,Tj,hT⟩:=hr.out
  by_cases hlt:j<n
  ·obtain ⟨s,hs⟩:∃s:eR (St d) (Rg d),r.states[j]?=some s:=⟨_,aN4 (by rw[<-Q.out.2.2.2.2.2.1];exact hlt)⟩
   obtain ⟨gd,od,l⟩:=Q.out.2.2.2.1 j s hs
   have O:=hT.keep HC.out.2.1
   have ac:=l.carry O (fH.carry d O)
   have af:=lA O Q.out.2.1 Q.out.1
   have g0:=aF af 0 (u:=.slice aS n cS) rfl
   have an:=Se aS gS n cS j hlt (fun hp=>(Q.out.2.2.1 hp).1)
   have ab:=Q.out.2.2.2.2.1.st s (aP1 hs)
   rw[<-Q.out.2.2.2.2.2.1] at ab
   obtain ⟨oS,ag⟩:=gQx (j*5)
   rw[<-ag] at ac l an
   obtain ⟨id,hid⟩:=gQx s.idle
   have q3:=ac.idle
   rw[<-hid] at q3
   rw[dT hs] at y
   cases id with
   | true=>
    have ar:Hid (Z=(Em.Gb (Em.aJ d) here (r.states.drop (j+1)) (j+1) D >>= fun U=>Em.dX (Em.aJ d) r r.order U) kj/\D.length=n/\∃Pj Tj,Two E ns P T (fun _=>False) kb b w k Pj Tj wr kj D (c+2000000*(j+1))):=⟨y.trans (eH (m':=Em.Gb (Em.aJ d) here (r.states.drop (j+1)) (j+1) D) (Tc hid.symm)),J,Pj,Tj,hT.more (by omega)⟩
    clear hr y J hT O ac l af ab ag hid hs
    go_wp2_with fail
    go_roundg (n-(j+1))
    case measure=>omega
    case rel=>exact ⟨j+1,kj,D,rfl,by omega,by go_num,ar.out⟩
   | false=>
    obtain ⟨cj,ae⟩:=gQx (c+2000000*j)
    have ai:Hid (cj=c+2000000*j/\cj≤6000000000000):=⟨ae,by have:=Q.out.2.2.2.2.2.2.1;omega⟩
    rw[<-ae] at hT
    have Y:Hid (Two E ns P T (fun _=>False) kb b w k Pj Tj wr kj D cj):=hT
    have ak:=aE4 here j (by omega) hT.cm hE
    have e1:Hid (Z=(Em.is here j >>= fun so=>Em.eT (Em.aJ d) s so D >>= fun U=>Em.Gb (Em.aJ d) here (r.states.drop (j+1)) (j+1) U >>= fun U=>Em.dX (Em.aJ d) r r.order U) kj):=by
     refine y.trans ((eH (aE6 hid.symm)).trans ?_)
     simp only[pA]
    have ad:Hid (vS A w (fH A d w) gS oS s gd od/\B9 ns n (eS ns d) s/\D.length=n):=⟨l,ab,J⟩
    clear hr y J hT O ac l af ab ag hid hs ae
    go_wp2_with (first
     | (go_at_call 163;refine ak.mono ?_;rintro e w2 (⟨rfl,I,h1⟩|⟨x2,k2,rfl,I,h1⟩);(· exact ⟨rfl,(.inl ⟨rfl,e1.out.trans (aH I.out),Y.out.bad h1.out⟩)⟩);obtain ⟨P2,S2⟩:∃P2,Hid (Two E ns P T (fun _=>False) kb b w k P2 Tj w2 k2 D (cj)):=⟨_,Y.out.coder h1.out⟩;have e2:Hid _:=e1.out.trans (bind_some I.out);clear I h1 ak;have O:=S2.out.keep HC.out.2.1;have am:=aH6 (n:=n) (so:=x2) hE HC.out.2.2.2 (ad.out.1.carry O (fH.carry d O)) ad.out.2.1 S2.out.cm S2.out.im S2.out.dis (S2.out.roU HC.out.2.1) ad.out.2.2 ai.out.2;clear O)
     | (go_at_call 162;refine am.mono ?_;rintro e w5 h5;rcases h5 with ⟨rfl,I,h1⟩|⟨t5,k5,rfl,I,P5,T5,h5⟩;(· exact ⟨rfl,.inl ⟨rfl,e2.out.trans (aH I.out),S2.out.fr.trans h1.out fun x hx h=>by { rcases h with h|h;exact (S2.out.up x h).1.elim .inl (fun h=>absurd h.1 (by omega));exact (S2.out.ut x h).1.elim .inr (fun h=>absurd h.1 (by omega)) }⟩⟩);have ap:Hid (Z=(Em.Gb (Em.aJ d) here (r.states.drop (j+1)) (j+1) t5 >>= fun U=>Em.dX (Em.aJ d) r r.order U) k5/\t5.length=n/\∃Pj Tj,Two E ns P T (fun _=>False) kb b w k Pj Tj w5 k5 t5 (c+2000000*(j+1))):=⟨e2.out.trans (bind_some I.out),by { rw[Sz I.out];exact ad.out.2.2 },P5,T5,(S2.out.trans h5).more (by { have:=ai.out.1;omega })⟩;clear I h5 am))
    clear Y e1 S2 e2
    go_roundg (n-(j+1))
    case measure=>omega
    case rel=>exact ⟨j+1,k5,t5,rfl,by omega,by go_num,ap.out⟩
  ·obtain rfl:j=n:=by omega
   have Y:Hid (Two E ns P T (fun _=>False) kb b w k Pj Tj wr kj D (c+2000000*j)):=hT
   have e1:Hid (Z=Em.dX (Em.aJ d) r r.order D kj):=by rw[Hid,y,Q.out.2.2.2.2.2.1,aR4];rfl
   have O:=Y.out.keep HC.out.2.1
   have ao:=Yw (n:=j) hE (aD1 hE d) (Q.out.2.2.2.2.2.2.2.carry O (fH.carry d O)) Q.out.2.2.2.2.1 Y.out.cm Y.out.im Y.out.dis (Y.out.roU HC.out.2.1) J Q.out.2.2.2.2.2.1 (by omega)
   clear hr y J hT O
   go_wp2_with (go_at_call 164;refine ao.mono ?_;rintro e w6 h6;rcases h6 with ⟨rfl,I,h1⟩|⟨k6,rfl,I,h1⟩;(· exact ⟨rfl,nK.up Y.out e1.out (.inl ⟨rfl,I,h1⟩)⟩))
   go_end0
   exact nK.up Y.out e1.out (.inr ⟨k6,rfl,I,h1⟩)
theorem aH7 (hE:E<1000000):∀d,Nz A kb E ns d
 | 0=>fun h=>h.elim
 | d+1=>fun hr hk h hI hd hR hn hc=>aH3 hE (aH7 hE d) hr hk h hI hd hR hn rfl hc
end
section
variable {A:Nat->Prop}{w:World}{d:Nat}
def vG {α:Type}(p:α->Bool) (l:List α):Int:=match l.findIdx? p with|some i=>(i:Int)|none=>-1
theorem Il {α:Type}{p:α->Bool}{l:List α}{j:Nat}{a:α}(s:l[j]?=some a) (h:p a=true) (u:∀(m:Nat) (b:α),m<j->l[m]?=some b->p b=false):vG p l=(j:Int):=by
 obtain ⟨r,rfl⟩:=aO7.1 s
 have:l.findIdx? p=some j:=List.findIdx?_eq_some_iff_getElem.2 ⟨r,h,fun m n=>by rw[u m _ n (aN4 (by omega))];simp⟩
 unfold vG;rw[this]
theorem Ik {α:Type}{p:α->Bool}{l:List α}(n:∀(m:Nat) (b:α),l[m]?=some b->p b=false):vG p l=-1:=by
 have:l.findIdx? p=none:=List.findIdx?_eq_none_iff.2 fun a j=>by
  obtain ⟨m,h⟩:=List.getElem?_of_mem j
  exact n m a h
 unfold vG;rw[this]
theorem Mc {σ:Type}:∀(l:List (cF σ)) (s:bE),vG (fun x=>decide (x.name=s)) l=eG (bD l) s:=by
 intro l s
 have h:l.findIdx? (fun x=>decide (x.name=s))=jT (bD l) s:=by
  induction l with
  | nil=>rfl
  | cons a r ih=>
   rw[List.findIdx?_cons,ih]
   show _=jT (a.name::bD r) s
   rw[jT]
   by_cases h:a.name=s
   ·rw[if_pos (by simpa using h),if_pos h]
   ·rw[if_neg (by simpa using h),if_neg h]
 unfold vG eG
 rw[h]
 cases jT (bD l) s<;>rfl
theorem aT6 (S:ByteArray) (f l:Bool) (s a4 a5 n h:Option Addr) (n3 c3 n4 c4 n5 c5 n7 j n8 r:Nat) (p:Option Addr) (W:World) :
 Calls prog 157 #[.agg #[.string S,.bool f,.bool l,.slice s n3 c3,.slice a4 n4 c4,.slice a5 n5 c5,.pointer p,.slice n n7 j,.slice h n8 r]] W fun e w'=>e=.returned (.bool f)/\Hid (Below W.heap.size W w'):=by
 go_enter Tryz.func157,Tryz.ntmps157
 go_wp2_with fail
 go_ret
 exact ⟨rfl,aL _ _⟩
theorem aT5 (S N:ByteArray) (f l:Bool) (I a4 a5 n j:Option Addr) (n3 c3 n4 c4 n5 c5 n7 D n8 r:Nat) (p:Option Addr) (q:Nat) (W:World) (u:W.cell? ⟨q,0,none⟩=some (.string N)) (b:Bool) (hb:b=decide (S=N)) :
 Calls prog 160 #[.agg #[.string S,.bool f,.bool l,.slice I n3 c3,.slice a4 n4 c4,.slice a5 n5 c5,.pointer p,.slice n n7 D,.slice j n8 r],.pointer (some ⟨q,0,none⟩)] W fun e w'=>e=.returned (.bool b)/\Hid (Below W.heap.size W w'):=by
 have s:∀h,(W.alloc h).cell? ⟨q,0,none⟩=some (.string N):=fun h=>aN (aL W h) u
 have y:(S.toList==N.toList)=b:=by
  rw[hb,ByteArray.toList_eq,ByteArray.toList_eq,Bool.eq_iff_iff]
  simp[ByteArray.ext_iff]
 clear hb
 go_enter Tryz.func160,Tryz.ntmps160
 go_wp2_with fail
 go_ret
 exact ⟨rfl,aL _ _⟩
theorem Xq {l:List (cF (St d))}{v:Value}(hv:aM A w (d+1) l v) :
 Calls prog 156 #[v,.func (.func 157) #[] #[]] w fun e w'=>e=.returned (.int .i64 (vG (fun x:cF (St d)=>x.first) l))/\Hid (Below w.heap.size w w'):=by
 obtain ⟨ad,g,cap,rfl,r,hg,Z⟩:=hv.open
 obtain ⟨N,hN⟩:=gQx l.length
 rw[<-hN] at r hg ⊢
 have HN:Hid _:=hN
 have HG:Hid (0<N->ad=some ⟨g,0,none⟩/\g<w.heap.size):=hg
 have ag:Hid _:=Z
 have ah:(N:Int)≤9223372036854775807:=by unfold maxLen at r;omega
 clear hv hN r hg Z
 go_enter Tryz.func156,Tryz.ntmps156
 go_wp2_with fail
 go_loopg [8] N (fun f i wr=>∃j:Nat,f=N-j/\j≤N/\i=.int .i64 (j:Int)/\Hid ((∀(m:Nat) (s:cF (St d)),m<j->l[m]?=some s->(fun x:cF (St d)=>x.first) s=false)/\Below w.heap.size w wr))
 case atStart=>exact ⟨0,by omega,by omega,rfl,fun m s J=>absurd J (by omega),Below.refl _ _⟩
 case round=>
  obtain ⟨j,rfl,hj,rfl,y⟩:=hrel
  by_cases hlt:j<N
  ·obtain ⟨s,I⟩:∃s:cF (St d),l[j]?=some s:=⟨_,aN4 (by rw[<-HN.out];exact hlt)⟩
   obtain ⟨ve,vd,vl,p,ay,ar,gy,O,Q,J,_⟩:=ag.out j s I
   have J:=J.below y.out.2
   have af:=Xo ad g N cap j hlt (fun hp=>(HG.out hp).1)
   obtain ⟨c0,c1,c2,c3,c4,c5,c6,c7,c8,he,U,ac,_⟩:=J
   obtain ⟨b1,b2,b3,rfl⟩:=he.sl'
   obtain ⟨b4,b5,b6,rfl⟩:=U.sl'
   obtain ⟨b7,b8,b9,rfl⟩:=ac.sl'
   obtain ⟨S,hS⟩:∃S,Value.string S=sv s.name:=⟨_,rfl⟩
   rw[<-hS] at c0
   obtain ⟨o,ho⟩:=gQx (j*9)
   rw[<-ho] at c0 c1 c2 c3 c4 c5 c6 c7 c8 af
   obtain ⟨f1,D⟩:=gQx s.first
   rw[<-D] at c1
   obtain ⟨yl,aa⟩:=gQx s.ways.length
   obtain ⟨rl,ab⟩:=gQx s.regions.length
   rw[<-aa] at c7
   rw[<-ab] at c8
   obtain ⟨Y,u⟩:=gQx ((fun x:cF (St d)=>x.first) s)
   rw[show f1=Y by rw[D,u]] at c1
   have ae:=aT6 S Y s.last b1 b4 b7 ay ar b2 b3 b5 b6 b8 b9 yl O rl Q p wr
   have HR:Hid (_/\_/\_/\_):=⟨y.out.1,y.out.2,I,u⟩
   clear y he U ac hS ho D aa ab u I
   cases Y with
   | true=>
    go_wp2_with (refine ae.mono ?_;rintro e w1 ⟨rfl,h1⟩)
    go_ret
    exact ⟨by rw[Il HR.out.2.2.1 HR.out.2.2.2.symm HR.out.1];rfl,aQ HR.out.2.1 h1.out⟩
   | false=>
    go_wp2_with (refine ae.mono ?_;rintro e w1 ⟨rfl,h1⟩)
    go_roundg (N-(j+1))
    case measure=>omega
    case rel=>exact ⟨j+1,rfl,by omega,by go_num,fun m s' J n=>by
     rcases aY1 m j with h|h
     ·exact HR.out.1 m s' h n
     ·obtain rfl:m=j:=by omega
      have:=HR.out.2.2.1
      rw[this] at n
      injection n with n
      rw[<-n]
      exact HR.out.2.2.2.symm,aQ HR.out.2.1 h1.out⟩
  ·obtain rfl:j=N:=by omega
   have HF:Hid (vG (fun x:cF (St d)=>x.first) l=-1/\_):=⟨Ik fun m s I=>y.out.1 m s (by have:=(aO7.1 I).1;have:=HN.out;omega) I,y.out.2⟩
   clear y
   go_wp2_with fail
   go_ret
   exact ⟨by rw[HF.out.1];rfl,HF.out.2⟩
theorem aE3 {l:List (cF (St d))}{v:Value}(hv:aM A w (d+1) l v) {q:Nat}{nm:bE}(hq:w.cell? ⟨q,0,none⟩=some (sv nm)) :
 Calls prog 156 #[v,.func (.func 160) #[] #[.pointer (some ⟨q,0,none⟩)]] w fun e w'=>e=.returned (.int .i64 (vG (fun x:cF (St d)=>decide (x.name=nm)) l))/\Hid (Below w.heap.size w w'):=by
 obtain ⟨ad,g,cap,rfl,u,hg,Z⟩:=hv.open
 obtain ⟨N,hN⟩:=gQx l.length
 rw[<-hN] at u hg ⊢
 have HN:Hid _:=hN
 have HG:Hid (0<N->ad=some ⟨g,0,none⟩/\g<w.heap.size):=hg
 have ah:Hid _:=Z
 have ai:(N:Int)≤9223372036854775807:=by unfold maxLen at u;omega
 have HQ:Hid _:=hq
 clear hq
 clear hv hN u hg Z
 go_enter Tryz.func156,Tryz.ntmps156
 go_wp2_with fail
 go_loopg [8] N (fun f i wr=>∃j:Nat,f=N-j/\j≤N/\i=.int .i64 (j:Int)/\Hid ((∀(m:Nat) (s:cF (St d)),m<j->l[m]?=some s->(fun x:cF (St d)=>decide (x.name=nm)) s=false)/\Below w.heap.size w wr))
 case atStart=>exact ⟨0,by omega,by omega,rfl,fun m s J=>absurd J (by omega),Below.refl _ _⟩
 case round=>
  obtain ⟨j,rfl,hj,rfl,r⟩:=hrel
  by_cases hlt:j<N
  ·obtain ⟨s,I⟩:∃s:cF (St d),l[j]?=some s:=⟨_,aN4 (by rw[<-HN.out];exact hlt)⟩
   obtain ⟨ve,vd,vl,p,ay,ar,gy,Q,U,J,_⟩:=ah.out j s I
   have J:=J.below r.out.2
   have ag:=Xo ad g N cap j hlt (fun hp=>(HG.out hp).1)
   obtain ⟨c0,c1,c2,c3,c4,c5,c6,c7,c8,he,Y,ac,_⟩:=J
   obtain ⟨b1,b2,b3,rfl⟩:=he.sl'
   obtain ⟨b4,b5,b6,rfl⟩:=Y.sl'
   obtain ⟨b7,b8,b9,rfl⟩:=ac.sl'
   obtain ⟨S,O⟩:∃S,Value.string S=sv s.name:=⟨_,rfl⟩
   rw[<-O] at c0
   obtain ⟨o,ho⟩:=gQx (j*9)
   rw[<-ho] at c0 c1 c2 c3 c4 c5 c6 c7 c8 ag
   obtain ⟨f1,ae⟩:=gQx s.first
   rw[<-ae] at c1
   obtain ⟨yl,aa⟩:=gQx s.ways.length
   obtain ⟨rl,ab⟩:=gQx s.regions.length
   rw[<-aa] at c7
   rw[<-ab] at c8
   obtain ⟨bb,y⟩:=gQx ((fun x:cF (St d)=>decide (x.name=nm)) s)
   obtain ⟨M,D⟩:∃M,Value.string M=sv nm:=⟨_,rfl⟩
   have af:=aT5 S M f1 s.last b1 b4 b7 ay ar b2 b3 b5 b6 b8 b9 yl Q rl U p q wr (by rw[D];exact aN r.out.2 HQ.out) bb (by
    rw[y]
    have e:(S=M)↔s.name=nm:=by
     unfold sv at O D
     injection O with O
     injection D with D
     rw[O,D]
     constructor
     ·intro h;simpa using h
     ·intro h;rw[h]
    simp[e])
   clear D
   have HR:Hid (_/\_/\_/\_):=⟨r.out.1,r.out.2,I,y⟩
   clear r he Y ac O ho ae aa ab y I
   cases bb with
   | true=>
    go_wp2_with (refine af.mono ?_;rintro e w1 ⟨rfl,h1⟩)
    go_ret
    exact ⟨by rw[Il HR.out.2.2.1 HR.out.2.2.2.symm HR.out.1];rfl,aQ HR.out.2.1 h1.out⟩
   | false=>
    go_wp2_with (refine af.mono ?_;rintro e w1 ⟨rfl,h1⟩)
    go_roundg (N-(j+1))
    case measure=>omega
    case rel=>exact ⟨j+1,rfl,by omega,by go_num,fun m s' J n=>by
     rcases aY1 m j with h|h
     ·exact HR.out.1 m s' h n
     ·obtain rfl:m=j:=by omega
      have:=HR.out.2.2.1
      rw[this] at n
      injection n with n
      rw[<-n]
      exact HR.out.2.2.2.symm,aQ HR.out.2.1 h1.out⟩
  ·obtain rfl:j=N:=by omega
   have HF:Hid (vG (fun x:cF (St d)=>decide (x.name=nm)) l=-1/\_):=⟨Ik fun m s I=>r.out.1 m s (by have:=(aO7.1 I).1;have:=HN.out;omega) I,r.out.2⟩
   clear r
   go_wp2_with fail
   go_ret
   exact ⟨by rw[HF.out.1];rfl,HF.out.2⟩
theorem Tl {l:List (cF (St d))}{v:Value}(D:aM A w (d+1) l v) {I:Nat}(n:w.cell? ⟨I,0,none⟩=some v) {nm:bE} :
 Calls prog 159 #[sv nm,.pointer (some ⟨I,0,none⟩)] w fun e w'=>e=.returned (.int .i64 (eG (bD l) nm))/\Hid (Below w.heap.size w w'):=by
 have O:∀(fn:Fn) (first cap:Array Value) (w:World),(Instr.makeFunc fn first cap).run prog w=.ok (.func fn first cap) w:=fun _ _ _ _=>rfl
 obtain ⟨M,u⟩:∃M,Value.string M=sv nm:=⟨_,rfl⟩
 rw[<-u]
 obtain ⟨X,s⟩:=gQx (w.alloc (.cells #[.string M] 9))
 obtain ⟨q,y⟩:=gQx w.heap.size
 have hb:Below w.heap.size w X:=by rw[s];exact aL _ _
 have j:X.cell? ⟨q,0,none⟩=some (sv nm):=by rw[<-u,s,y];exact aF (aX w _) 0 rfl
 have r:aM A X (d+1) l v:=D.carry (fun x hx J=>⟨hx,hb.block x J⟩)
 have h:=aE3 r j
 rw[Mc] at h
 obtain ⟨Y,g,cap,rfl,_⟩:=D.open
 have c0:=aN hb n
 have Q:Hid _:=hb
 clear D r j hb n u
 go_enter Tryz.func159,Tryz.ntmps159
 go_upto_region 1 with fail
 rw[<-s,<-y]
 clear s y
 go_wp2_with (refine h.mono ?_;rintro e w1 ⟨rfl,U⟩)
 go_ret
 exact ⟨rfl,aQ Q.out U.out⟩
end
end Ew
end
end Go.Proofs.YthieaobjdpfcoaaGreatDoor
