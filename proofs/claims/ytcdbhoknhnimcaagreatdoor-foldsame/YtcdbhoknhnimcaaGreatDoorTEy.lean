import Derived.Test.YtcdbhoknhnimcaaGreatDoorTEy1
import Derived.Deep.CutRange
set_option maxRecDepth 100000
set_option maxHeartbeats 16000000
namespace Go.Proofs.YtcdbhoknhnimcaaGreatDoor
open Go.RowKit Px
namespace Ew
open Px.Em (Kd Vr eL eM jG Rg cR)
open Nx (Nt Sp)
section
variable {A P Pj Rj:Nat->Prop}{w wr w':World}{ns:List bB}{kb gd od q7 d E:Nat}{k kj:Kd}{ins:List (Rg d)}{ys:List eL}{id lv:Bool}{ai aw:Option Addr}{ci cw:Nat}
theorem F7 (ih:yJ A kb ns d) {q3:Nat}{vl:Value}{L:List (cC (St d))}{s:cC (St d)}(hL:aL A w (d+1) L vl) (hq3:w.cell? ⟨q3,0,none⟩=some vl/\¬P q3) {i:Nat}{ve vd vle:Value}{p ay ar:Option Addr}{gy capy capr:Nat}(hod:od=i*9) (hAd:A gd) (hm:Lg A w gd i s ve vd vle p ay ar gy capy capr) (hrg:gI A w (aL A w d) s.regions (.slice ar s.regions.length capr)) (hAy:0<s.ways.length->A gy)
    (hR0:StR ns s/\(∀r∈s.regions,qW ns d r/\uM d r/\qV d r)/\(∀y∈s.ways,(∃t,jK (bA L) y.to=some t)/\y.to.length≤maxLen/\y.times≤1000000)/\s.ways.length≤1000000/\s.regions.length≤1000000/\s.during.length≤1000000/\s.leave.length≤1000000) (h:eG E ns P w kb k) (hR:Ro A P w) (hE:E+iW (hJ d) s<1000000) :
    Calls Tryz.prog 202 #[.pointer (some ⟨kb,0,none⟩),.pointer (some ⟨gd,od,none⟩),.func (.func 200) #[] #[.pointer (some ⟨q3,0,none⟩)]] w fun e w'=>∃aw nw cw ai ni ci id lv,e=.returned (.agg #[.pointer (some ⟨gd,od,none⟩),.slice aw nw cw,.slice ai ni ci,.bool id,.bool lv])/\
     Hid (∃(st:eM (St d) (Rg d)) (k':Kd) (P' R:Nat->Prop),Em.iU (Em.aG d) (bA L) s k=some (st,k')/\st.idle=id/\st.leaves=lv/\eG (E+iW (hJ d) s) ns P' w' kb k'/\(∀x,P' x->Up P w w' x)/\(∀x,P' x->¬R x)/\(∀x,R x->w.heap.size≤x/\x<w'.heap.size)/\bH P w w'/\k.net.places≤k'.net.places/\Sy (fun x=>A x\/R x) w' st gd od (.slice aw nw cw) (.slice ai ni ci)/\zA ns L.length (eN ns d) st):=by
 obtain ⟨Z,hZ⟩:∃Z,Z=Em.iU (Em.aG d) (bA L) s k:=⟨_,rfl⟩
 have HZ:Hid (Z=Em.iU (Em.aG d) (bA L) s k):=hZ
 obtain ⟨c0,c1,c2,c3,c4,c5,c6,c7,c8,he,hdu,hle,hp,hwy⟩:=hm
 rw[<-hod] at c0 c1 c2 c3 c4 c5 c6 c7 c8
 obtain ⟨a3,g3,p3,rfl,m3,_⟩:=cE.opn he
 obtain ⟨a4,g4,p4,rfl,m4,_⟩:=cE.opn hdu
 obtain ⟨a5,g5,p5,rfl,m5,_⟩:=cE.opn hle
 obtain ⟨adr,grr,cpr,er,hmr,hgr,hrr⟩:=hrg.len
 have er1:ar=adr:=by injection er
 have er2:capr=cpr:=by injection er
 subst er1 er2
 have hArr:0<s.regions.length->A grr:=fun hp=>by
  obtain ⟨xs,hr,_⟩:=hrg
  exact hr.2 grr (by rw[(hgr hp).1];rfl)
 obtain ⟨dl,hdl⟩:∃dl,dl=s.during.length:=⟨_,rfl⟩
 obtain ⟨ll,hll⟩:∃ll,ll=s.leave.length:=⟨_,rfl⟩
 obtain ⟨N,hN⟩:∃N,N=s.ways.length:=⟨_,rfl⟩
 obtain ⟨M,hM⟩:∃M,M=s.regions.length:=⟨_,rfl⟩
 rw[<-hdl] at c4 m4
 rw[<-hll] at c5 m5
 rw[<-hN] at c7
 rw[<-hM] at c8 hmr hgr
 obtain ⟨id0,hid0⟩:∃id0,id0=decide (dl+N=0):=⟨_,rfl⟩
 obtain ⟨lv0,hlv0⟩:∃lv0,lv0=decide (0<ll):=⟨_,rfl⟩
 have hN1:N≤1000000:=by rw[hN];exact hR0.2.2.2.1
 have hM1:M≤1000000:=by rw[hM];exact hR0.2.2.2.2.1
 have hd1:dl≤1000000:=by rw[hdl];exact hR0.2.2.2.2.2.1
 have hl1:ll≤1000000:=by rw[hll];exact hR0.2.2.2.2.2.2
 have hi1':True:=trivial
 clear hi1'
 have hi1:(IntKind.i64.wrap ((dl:Int)+(N:Int))==0)=id0:=by rw[hid0,IntKind.wrap_i64,Bool.eq_iff_iff];simp;omega
 have hi2:decide (0<ll)=lv0:=hlv0.symm
 obtain ⟨i0,hi0,hz0,hz1,hz2⟩:=info_parts Vs
 obtain ⟨j0,hj0,hy0,hy1,hy2⟩:=info_parts Vo
 obtain ⟨W6,hW6⟩:∃W6,W6=w.alloc (.cells #[.pointer none,.slice none 0 0,.slice none 0 0,.bool false,.bool false] 269):=⟨_,rfl⟩
 obtain ⟨q6,hq6⟩:∃q6,q6=w.heap.size:=⟨_,rfl⟩
 have hb6:Below w.heap.size w W6:=by rw[hW6];exact aC _ _
 have hk6:W6.heap[q6]?=some (.cells #[.pointer none,.slice none 0 0,.slice none 0 0,.bool false,.bool false] 269 (0,0)):=by rw[hW6,hq6];exact bE w _
 have d4:=aM hb6 c4
 have d5:=aM hb6 c5
 have d7:=aM hb6 c7
 have d8:=aM hb6 c8
 have HI1:Hid ((IntKind.i64.wrap ((dl:Int)+(N:Int))==0)=id0/\decide (0<ll)=lv0):=⟨hi1,hi2⟩
 clear hi1 hi2
 have HE:Hid (dl=s.during.length/\ll=s.leave.length/\N=s.ways.length/\M=s.regions.length/\id0=decide (dl+N=0)/\lv0=decide (0<ll)):=⟨hdl,hll,hN,hM,hid0,hlv0⟩
 have HD:Hid (A gd/\w.cell? ⟨gd,od+2,none⟩=some (.bool s.last)/\(w.cell? ⟨gd,od+3,none⟩=some (.slice a3 s.enter.length p3)/\cE A w s.enter (.slice a3 s.enter.length p3))/\(w.cell? ⟨gd,od+4,none⟩=some (.slice a4 dl p4)/\cE A w s.during (.slice a4 dl p4))/\(w.cell? ⟨gd,od+5,none⟩=some (.slice a5 ll p5)/\cE A w s.leave (.slice a5 ll p5))/\(w.cell? ⟨gd,od+6,none⟩=some (.pointer p)/\jI A w s.rests (.pointer p))/\w.cell? ⟨gd,od+7,none⟩=some (.slice ay N capy)/\w.cell? ⟨gd,od+8,none⟩=some (.slice ar M capr)):=⟨hAd,c2,⟨c3,he⟩,⟨c4,by rw[hdl];exact hdu⟩,⟨c5,by rw[hll];exact hle⟩,⟨c6,hp⟩,c7,c8⟩
 have HRR:Hid ((0<M->ar=some ⟨grr,0,none⟩/\A grr)/\∀(i:Nat) (r:List (St d)),s.regions[i]?=some r->∃u,w.cell? ⟨grr,i,none⟩=some u/\aL A w d r u):=⟨fun hp=>⟨(hgr hp).1,hArr (by omega)⟩,hrr⟩
 have HWY:Hid ((0<N->ay=some ⟨gy,0,none⟩/\A gy)/\∀m y,s.ways[m]?=some y->∃p q,iV A w gy (m*7) y p q):=⟨fun hp=>⟨(hwy.2.1 (by omega)).1,hAy (by omega)⟩,hwy.2.2⟩
 have HH:Hid (aL A w (d+1) L vl/\(w.cell? ⟨q3,0,none⟩=some vl/\¬P q3)/\eG E ns P w kb k/\Ro A P w/\E+iW (hJ d) s<1000000/\yJ A kb ns d):=⟨hL,hq3,h,hR,hE,ih⟩
 have H0:Hid (StR ns s/\(∀r∈s.regions,qW ns d r/\uM d r/\qV d r)/\(∀y∈s.ways,(∃t,jK (bA L) y.to=some t)/\y.to.length≤maxLen/\y.times≤1000000)/\s.ways.length≤1000000/\s.regions.length≤1000000/\s.during.length≤1000000/\s.leave.length≤1000000):=hR0
 clear hdl hll hN hM hid0 hlv0 hod hZ hAd c0 c1 c2 c3 c4 c5 c6 c7 c8 he hdu hle hp hwy hrr hgr hrg er hArr hL hq3 h hR hE ih hR0 hAy m3 m4 m5 hmr
 go_enter Tryz.func202,Tryz.ntmps202
 go_upto_region 1 with fail
 rw[<-hW6,<-hq6]
 have HB6:Hid (Below w.heap.size w W6/\q6=w.heap.size/\W6.heap.size=w.heap.size+1):=⟨hb6,hq6,by rw[hW6];simp⟩
 clear hW6 hq6 hb6
 go_region_held3 (fun W=>W.cell? ⟨gd,od+4,none⟩=some (.slice a4 dl p4)/\W.cell? ⟨gd,od+7,none⟩=some (.slice ay N capy)/\W.cell? ⟨gd,od+5,none⟩=some (.slice a5 ll p5)) (first|exact ⟨d4,d7,d5⟩|go_keep) (fail)
 rw[HI1.out.1,HI1.out.2]
 generalize IntKind.i64.wrap ((dl:Int)+(N:Int))=zz
 obtain ⟨W7,hW7⟩:∃W7,W7=(W6.alloc (.cells #[.pointer (some ⟨gd,od,none⟩),.slice none 0 0,.slice none 0 0,.bool id0,.bool lv0] 269)).drew:=⟨_,rfl⟩
 obtain ⟨q7,hq7⟩:∃q7,q7=W6.heap.size:=⟨_,rfl⟩
 have hb7:Below W6.heap.size W6 W7:=by rw[hW7];exact (aC _ _).drew
 have hk7:W7.heap[q7]?=some (.cells #[.pointer (some ⟨gd,od,none⟩),.slice none 0 0,.slice none 0 0,.bool id0,.bool lv0] 269 (0,0)):=by rw[hW7,hq7];exact bE W6 _
 have hP6:∀x,P x->x<W6.heap.size:=fun x hx=>by have:=HH.out.2.2.1.2.2 x hx;have:=HB6.out.2.2;omega
 have hA6:∀x,A x->x<W6.heap.size:=fun x hx=>by have:=(HH.out.2.2.2.1 x hx).1;have:=HB6.out.2.2;omega
 have HS0:Hid (LS A ns P kb W6 k gd od q7 d E P (fun _=>False) W7 k [] [] id0 lv0 none 0 none 0):=
  ⟨(HH.out.2.2.1.below HB6.out.1).below hb7,fun x hx=>.inl hx,fun _ _ h=>h,fun _ h=>h.elim,bH.of_below hb7,Int.le_refl _,hk7,⟨by rw[hq7];exact Nat.le_refl _,fun hp=>absurd (hP6 q7 hp) (by omega),id⟩,⟨[],World.ownsRow_nil _ _ _ _,rfl⟩,fun x hx=>by simp[Value.ownBlock] at hx,⟨[],World.ownsRow_nil _ _ _ _,rfl⟩,fun x hx=>by simp[Value.ownBlock] at hx⟩
 have HA6:Hid ((∀x,A x->x<W6.heap.size)/\Ro A P W6/\aX A A w W6/\(∀x,P x->x<W6.heap.size)/\¬P q6/\q6<W6.heap.size/\W6.heap[q6]?=some (.cells #[.pointer none,.slice none 0 0,.slice none 0 0,.bool false,.bool false] 269 (0,0))):=⟨hA6,fun x hx=>⟨hA6 x hx,(HH.out.2.2.2.1 x hx).2⟩,fun x hx hl=>⟨hx,HB6.out.1.block x hl⟩,hP6,fun hp=>by have:=HH.out.2.2.1.2.2 q6 hp;have:=HB6.out.2.1;omega,by have:=HB6.out.2;omega,hk6⟩
 have e8:W7.cell? ⟨gd,od+8,none⟩=some (.slice ar M capr):=aM hb7 d8
 rw[<-hW7,<-hq7]
 clear hW7 hq7 hb7 hk7 hP6 hA6 d4 d5 d7 d8 hk6
 go_upto_region 3 with fail
 clear e8
 go_loopg [38] M (fun f i wr=>∃(j:Nat) (kj:Kd) (ins:List (Rg d)) (id lv:Bool) (ai:Option Addr) (ci:Nat),f=M-j/\j≤M/\i=.int .i64 (j:Int)/\Hid (ins.length=j/\Z=(Em.pC (Em.aG d) (s.regions.drop j) >>= fun t=>Xh (bA L) s (ins++t)) kj/\id=(id0&&ins.all (Em.aG d).idle)/\lv=(lv0||ins.any (Em.aG d).leaves)/\(∀r∈ins,eN ns d r)/\∃Pj Rj,LS A ns P kb W6 k gd od q7 d (E+((s.regions.take j).map (hJ d)).sum) Pj Rj wr kj ins [] id lv ai ci none 0))
 case atStart=>exact ⟨0,k,[],id0,lv0,none,0,by omega,by omega,rfl,rfl,by rw[HZ.out,X6];rfl,by simp,by simp,fun _ h=>by simp at h,P,_,by simpa using HS0.out⟩
 case round=>
  obtain ⟨j,kj,ins,id,lv,ai,ci,rfl,hj,rfl,hr⟩:=hrel
  obtain ⟨hr1,hr2,hr3,hr4,hr5,Pj,Rj,hS⟩:=hr.out
  by_cases hlt:j<M
  ·obtain ⟨r,hrr⟩:∃r:List (St d),s.regions[j]?=some r:=⟨_,List.getElem?_eq_getElem (by rw[<-HE.out.2.2.2.1];exact hlt)⟩
   obtain ⟨u,c0,hu⟩:=HRR.out.2 j r hrr
   have kp0:aX A A W6 wr:=HA6.out.2.1.keep hS.fr
   have kp:aX A A w wr:=HA6.out.2.2.1.trans kp0 HB6.out.1.size
   have c0:=cF kp (HRR.out.1 (by omega)).2 c0
   have hu:=hu.carry kp
   have hix:=ixR ar grr M capr j hlt (fun hp=>(HRR.out.1 hp).1)
   have h00:=H0.out.2.1 r (List.mem_of_getElem? hrr)
   have hRj:Ro A Pj wr:=fun x hx=>⟨Nat.lt_of_lt_of_le (HA6.out.1 x hx) hS.fr.size,fun hp=>(hS.up x hp).elim (HA6.out.2.1 x hx).2 fun h=>absurd h.1 (by have:=HA6.out.1 x hx;omega)⟩
   have hbud:(E+((s.regions.take j).map (hJ d)).sum)+hJ d r<1000000:=by
    have h1:=HH.out.2.2.2.2.1
    have h2:=lZ (hJ d) hrr
    unfold iW at h1
    omega
   have hlay:=HH.out.2.2.2.2.2 hu h00.2.1 h00.1 h00.2.2 hS.cm hRj hbud
   have HJ:Hid (LS A ns P kb W6 k gd od q7 d (E+((s.regions.take j).map (hJ d)).sum) Pj Rj wr kj ins [] id lv ai ci none 0/\s.regions[j]?=some r/\ins.length=j/\Z=((Em.aG d).lay r >>= fun x=>Em.pC (Em.aG d) (s.regions.drop (j+1)) >>= fun t=>Xh (bA L) s ((ins++[x])++t)) kj/\id=(id0&&ins.all (Em.aG d).idle)/\lv=(lv0||ins.any (Em.aG d).leaves)/\∀r∈ins,eN ns d r):=⟨hS,hrr,hr1,by rw[hr2,dR hrr,Cx],hr3,hr4,hr5⟩
   clear hr hr1 hr2 hr3 hr4 hr5 hS hrr hu kp0 kp h00 hRj hbud
   go_upto_region 6 with (go_at_call 147;refine hlay.mono ?_;rintro e w1 ⟨g1,rfl,h1⟩)
   obtain ⟨r1,k1,P1,R1,hz,L1⟩:=h1.out
   obtain ⟨hg,f4,f5⟩:=eV.flags d L1.rg
   obtain ⟨id1,hid1⟩:∃id1,id1=(Em.aG d).idle r1:=⟨_,rfl⟩
   obtain ⟨lv1,hlv1⟩:∃lv1,lv1=(Em.aG d).leaves r1:=⟨_,rfl⟩
   rw[<-hid1] at f4
   rw[<-hlv1] at f5
   have S1:LS A ns P kb W6 k gd od q7 d (E+((s.regions.take (j+1)).map (hJ d)).sum) P1 (fun x=>Rj x\/R1 x) w1 k1 ins [] id lv ai ci none 0:=by
    rw[mE (hJ d) HJ.out.2.1,<-Nat.add_assoc]
    exact LS.coder HA6.out.2.1 HJ.out.1 L1.cm L1.up L1.dr L1.rn L1.fr L1.pl
   have hrg1:eV (fun x=>A x\/Rj x\/R1 x) d w1 r1 g1:=eV.carry d (fun x hx _=>⟨hx.elim .inl fun h=>.inr (.inr h),rfl⟩) r1 g1 L1.rg
   have hgq:g1≠q7:=fun e=>by
    rcases hg with hg|hg
    ·have:=HA6.out.1 g1 hg;have:=S1.ql.1;omega
    ·exact S1.ql.2.2 (.inr (e▸hg))
   have HJ2:Hid (Z=(Em.pC (Em.aG d) (s.regions.drop (j+1)) >>= fun t=>Xh (bA L) s ((ins++[r1])++t)) k1/\(id&&id1)=(id0&&(ins++[r1]).all (Em.aG d).idle)/\(lv||lv1)=(lv0||(ins++[r1]).any (Em.aG d).leaves)/\(∀r∈ins++[r1],eN ns d r)/\ins.length=j/\eN ns d r1):=by
    obtain ⟨_,_,g3,g4,g5,g6,g7⟩:=HJ.out
    refine ⟨?_,by rw[g5,hid1];simp[Bool.and_assoc],by rw[g6,hlv1];simp[Bool.or_assoc],fun r hr=>?_,g3,L1.ok⟩
    ·rw[g4];exact A9 hz
    ·rcases List.mem_append.1 hr with h|h
     ·exact g7 r h
     ·rw[List.mem_singleton.1 h];exact L1.ok
   have S2:∀b,LS A ns P kb W6 k gd od q7 d (E+((s.regions.take (j+1)).map (hJ d)).sum) P1 (fun x=>Rj x\/R1 x) (w1.setCell ⟨q7,3,none⟩ (.bool b)) k1 ins [] b lv ai ci none 0:=fun b=>S1.flag HA6.out.1 (j:=3) rfl
   have S3:∀b c,LS A ns P kb W6 k gd od q7 d (E+((s.regions.take (j+1)).map (hJ d)).sum) P1 (fun x=>Rj x\/R1 x) ((w1.setCell ⟨q7,3,none⟩ (.bool b)).setCell ⟨q7,4,none⟩ (.bool c)) k1 ins [] b c ai ci none 0:=fun b c=>(S2 b).flag HA6.out.1 (j:=4) rfl
   have HS3:Hid ((∀b c,LS A ns P kb W6 k gd od q7 d (E+((s.regions.take (j+1)).map (hJ d)).sum) P1 (fun x=>Rj x\/R1 x) ((w1.setCell ⟨q7,3,none⟩ (.bool b)).setCell ⟨q7,4,none⟩ (.bool c)) k1 ins [] b c ai ci none 0)/\∀b c,eV (fun x=>A x\/Rj x\/R1 x) d ((w1.setCell ⟨q7,3,none⟩ (.bool b)).setCell ⟨q7,4,none⟩ (.bool c)) r1 g1):=⟨S3,fun b c=>eV.carry d (fun x hx _=>⟨hx,by
    have:x≠q7:=fun e=>by
     rcases hx with hx|hx
     ·have:=HA6.out.1 x hx;have:=S1.ql.1;omega
     ·exact S1.ql.2.2 (e▸hx)
    rw[Below.heap_setCell _ _ _ _ this,Below.heap_setCell _ _ _ _ this]⟩) r1 g1 hrg1⟩
   have x3:w1.cell? ⟨q7,3,none⟩=some (.bool id):=aA S1.hq 3 rfl
   have y3:=aE S1.hq 3
   have x4:∀b,(w1.setCell ⟨q7,3,none⟩ (.bool b)).cell? ⟨q7,4,none⟩=some (.bool lv):=fun b=>aA (S2 b).hq 4 rfl
   have y4:∀b,(w1.setCell ⟨q7,3,none⟩ (.bool b)).frozen? ⟨q7,4,none⟩=false:=fun b=>aE (S2 b).hq 4
   have f5':∀b,(w1.setCell ⟨q7,3,none⟩ (.bool b)).cell? ⟨g1,5,none⟩=some (.bool lv1):=fun b=>by
    rw[World.cell?_of_block (w:=w1) (a:=⟨g1,5,none⟩) (Below.heap_setCell _ _ _ _ hgq)];exact f5
   clear f5 h1 hz L1 hg hid1 hlv1 S1 hrg1 hgq S2 S3 HJ hlay hix c0
   obtain ⟨m,hmm⟩:∃m,m=ins.length:=⟨_,rfl⟩
   have HM:Hid (m=ins.length/\m≤1000000):=⟨hmm,by rw[hmm,HJ2.out.2.2.2.2.1];omega⟩
   clear hmm
   go_cut [] from 39 to 69 (fun wx=>∃b,wx=w1.setCell ⟨q7,3,none⟩ (.bool b)/\Hid (b=(id&&id1)))
   case first=>
    cases id
    all_goals
     go_wp2_with fail
     go_meet
     case rel=>exact ⟨_,rfl,rfl⟩
   case rest=>
    obtain ⟨b,rfl,hb⟩:=hcut
    go_upto_region 7 with fail
    go_cut [] from 39 to 69 (fun wx=>∃c,wx=(w1.setCell ⟨q7,3,none⟩ (.bool b)).setCell ⟨q7,4,none⟩ (.bool c)/\Hid (c=(lv||lv1)))
    case first=>
     cases lv
     all_goals
      go_wp2_with fail
      go_meet
      case rel=>exact ⟨_,rfl,rfl⟩
    case rest=>
     obtain ⟨c,rfl,hc⟩:=hcut
     go_upto_region 8 with fail
     clear x3 y3 x4 y4 f4 f5'
     obtain ⟨W3,hW3⟩:∃W3,W3=(w1.setCell ⟨q7,3,none⟩ (.bool b)).setCell ⟨q7,4,none⟩ (.bool c):=⟨_,rfl⟩
     have S3:=HS3.out.1 b c
     have G3:=HS3.out.2 b c
     rw[<-hW3] at S3 G3 ⊢
     have HJ3:Hid (Z=(Em.pC (Em.aG d) (s.regions.drop (j+1)) >>= fun t=>Xh (bA L) s ((ins++[r1])++t)) k1/\b=(id0&&(ins++[r1]).all (Em.aG d).idle)/\c=(lv0||(ins++[r1]).any (Em.aG d).leaves)/\(∀r∈ins++[r1],eN ns d r)/\ins.length=j):=⟨HJ2.out.1,hb.out.trans HJ2.out.2.1,hc.out.trans HJ2.out.2.2.1,HJ2.out.2.2.2.1,HJ2.out.2.2.2.2.1⟩
     clear hW3 HS3 HJ2
     obtain ⟨xi,ri1,ri2⟩:=S3.ri
     have lq3:=aB S3.hq
     have x2:W3.cell? ⟨q7,2,none⟩=some (.slice ai m ci):=by rw[HM.out.1];exact aA S3.hq 2 rfl
     have ri0:W3.ownsRow 0 219 1 (.slice ai m ci) m xi:=by rw[HM.out.1];exact ri1
     have hml:=HM.out.2
     have HS4:Hid (LS A ns P kb W6 k gd od q7 d (E+((s.regions.take (j+1)).map (hJ d)).sum) P1 (fun x=>Rj x\/R1 x) W3 k1 ins [] b c ai ci none 0/\Rows (Lj (fun x=>A x\/Rj x\/R1 x) W3) ins xi/\eV (fun x=>A x\/Rj x\/R1 x) d W3 r1 g1):=⟨S3,ri2,G3⟩
     clear S3 ri1 ri2 G3
     go_wp2_with (at_builtin;refine wpList_append_own_at _ rfl (.tmp 64) (.tmp 66) 267 rfl 0 219 i0 _ 1 8 Tryz.underlying267 hi0 hz0 hz1 hz2 rfl (by decide) _ _ _ rfl (ri0.alloc _) ⟨W3.heap.size,0,none⟩ 1 1 [.pointer (some ⟨g1,0,none⟩)] rfl rfl (dX _ _ _) (by intro u hu;simp at hu;subst hu;rfl) (by unfold maxLen;omega) (by omega) (by simp) ?_;intro v5 w5 hown5 hgrow _ hat;obtain ⟨a5,m5,e5⟩:=aJ hown5;subst e5;have hk5:w5.heap[q7]?=W3.heap[q7]?:=by { rw[hgrow.block q7 (by simp;omega) (fun e=>(HS4.out.1.oi q7 (by rw[<-HM.out.1];exact e.symm)).2.2.2 rfl),Below.heap_alloc _ _ _ lq3] };have hk6:=hk5.trans HS4.out.1.hq;have z2:=aA hk6 2 rfl;have f2:=aE hk6 2)
     go_roundg (M-(j+1))
     case measure=>omega
     case rel=>
      have hfin:=LS.appI HS4.out.1 HA6.out.1 (w5:=w5) (a5:=a5) (c5:=m5) (g:=g1) (r:=r1) (xi:=xi) HS4.out.2.1 HS4.out.2.2 (by rw[<-HM.out.1];exact hown5) (by rw[<-HM.out.1];exact hgrow) (by rw[<-HM.out.1];exact hat)
      rw[<-HM.out.1] at hfin
      exact ⟨j+1,k1,ins++[r1],b,c,a5,m5,by omega,by omega,by go_num,by rw[List.length_append,HJ3.out.2.2.2.2];rfl,HJ3.out.1,HJ3.out.2.1,HJ3.out.2.2.1,HJ3.out.2.2.2.1,P1,_,hfin⟩
  ·have ej:j=M:=by omega
   have kp0:aX A A W6 wr:=HA6.out.2.1.keep hS.fr
   have kp:aX A A w wr:=HA6.out.2.2.1.trans kp0 HB6.out.1.size
   have e7:=cF kp HD.out.1 HD.out.2.2.2.2.2.2.1
   have HJ:Hid (Z=(Em.jP (bA L) s.ways >>= fun ws=>pure ⟨s,ws,ins,id,lv⟩) kj/\(∀r∈ins,eN ns d r)/\ins.length≤1000000/\LS A ns P kb W6 k gd od q7 d (E+(s.regions.map (hJ d)).sum) Pj Rj wr kj ins [] id lv ai ci none 0):=by
    refine ⟨?_,hr5,by omega,?_⟩
    ·rw[hr2,List.drop_eq_nil_of_le (by rw[<-HE.out.2.2.2.1];omega)]
     show Xh (bA L) s (ins++[]) kj=_
     rw[List.append_nil,hr3,hr4,HE.out.2.2.2.2.1,HE.out.2.2.2.2.2,HE.out.1,HE.out.2.1,HE.out.2.2.1]
     rfl
    ·rw[List.take_of_length_le (by rw[<-HE.out.2.2.2.1];omega)] at hS
     exact hS
   clear hr hr1 hr2 hr3 hr4 hr5 hS kp0 kp ej
   go_upto_region 11 with fail
   clear e7
   go_loopg [75] N (fun f i wr=>∃(jw:Nat) (kw:Kd) (ys:List eL) (aw:Option Addr) (cw:Nat),f=N-jw/\jw≤N/\i=.int .i64 (jw:Int)/\Hid (ys.length=jw/\Z=(Em.jP (bA L) (s.ways.drop jw) >>= fun t=>pure ⟨s,ys++t,ins,id,lv⟩) kw/\(∀y∈ys,vS ns L.length y)/\∃Pj Rj,LS A ns P kb W6 k gd od q7 d (E+(s.regions.map (hJ d)).sum+jw) Pj Rj wr kw ins ys id lv ai ci aw cw))
   case atStart=>exact ⟨0,kj,[],none,0,by omega,by omega,rfl,rfl,HJ.out.1,fun _ h=>by simp at h,Pj,Rj,HJ.out.2.2.2⟩
   case round=>
    have HK:Hid ((∀r∈ins,eN ns d r)/\ins.length≤1000000):=⟨HJ.out.2.1,HJ.out.2.2.1⟩
    clear HJ
    obtain ⟨jw,kw,ys,aw,cw,rfl,hjw,rfl,hr⟩:=hrel
    obtain ⟨hr1,hr2,hr3,Pw,Rw,hS⟩:=hr.out
    have hP6:∀x,Pw x->¬A x:=fun x hp hx=>(hS.up x hp).elim (HA6.out.2.1 x hx).2 fun h=>absurd h.1 (by have:=HA6.out.1 x hx;omega)
    have kp0:aX A A W6 wr:=HA6.out.2.1.keep hS.fr
    have kp:aX A A w wr:=HA6.out.2.2.1.trans kp0 HB6.out.1.size
    by_cases hlw:jw<N
    ·obtain ⟨y,hy⟩:∃y:Wy,s.ways[jw]?=some y:=⟨_,List.getElem?_eq_getElem (by rw[<-HE.out.2.2.1];exact hlw)⟩
     obtain ⟨yp,yq,hyM⟩:=HWY.out.2 jw y hy
     have hyM:=iV.carry kp (HWY.out.1 (by omega)).2 hyM
     have e7:=cF kp HD.out.1 HD.out.2.2.2.2.2.2.1
     have hix:=ixW ay gy N capy jw hlw (fun hp=>(HWY.out.1 hp).1)
     obtain ⟨q12,hq12⟩:∃q12,q12=wr.heap.size:=⟨_,rfl⟩
     obtain ⟨W2,hW2⟩:∃W2,W2=wr.alloc (.cells #[.pointer (some ⟨gy,jw*7,none⟩),.int .i64 0,.int .i64 (-1)] 303):=⟨_,rfl⟩
     have hb2:Below wr.heap.size wr W2:=by rw[hW2];exact aC _ _
     have hk2:W2.heap[q12]?=some (.cells #[.pointer (some ⟨gy,jw*7,none⟩),.int .i64 0,.int .i64 (-1)] 303 (0,0)):=by rw[hW2,hq12];exact bE wr _
     have kp2:aX A A wr W2:=fun x hx hl=>⟨hx,hb2.block x hl⟩
     have hyM2:=iV.carry kp2 (HWY.out.1 (by omega)).2 hyM
     have hst:aL A W2 (d+1) L vl:=HH.out.1.carry (kp.trans kp2 (Nat.le_trans HB6.out.1.size hS.fr.size))
     have hq3:W2.cell? ⟨q3,0,none⟩=some vl:=aM hb2 (hS.fr.cell (aM HB6.out.1 HH.out.2.1.1) HH.out.2.1.2)
     obtain ⟨T,hT⟩:∃T,Value.string T=sv y.to:=⟨_,rfl⟩
     have hfind:=Qo hst hq3 (nm:=y.to)
     rw[<-hT] at hfind
     obtain ⟨tgt,hto⟩:∃tgt,tgt=eB (bA L) y.to:=⟨_,rfl⟩
     rw[<-hto] at hfind
     have c5:W2.cell? ⟨gy,jw*7+5,none⟩=some (.string T):=by rw[hT];exact hyM2.2.2.2.2.2.1
     have a0:=aA hk2 0 rfl
     obtain ⟨xi,ri1,ri2⟩:=hS.ri
     obtain ⟨xw,rw1,rw2⟩:=hS.rwy
     have QQ:Hid (W6.heap.size≤q12/\¬Pw q12/\¬Rw q12/\q12≠q7/\(Value.slice ai ins.length ci).ownBlock≠some q12/\(Value.slice aw ys.length cw).ownBlock≠some q12):=⟨by rw[hq12];exact hS.fr.size,fun h=>by have:=hS.cm.2.2 _ h;omega,fun h=>by have:=(hS.rn _ h).2;omega,fun e=>by have:=aB hS.hq;omega,fun e=>by have:=(ri1.lt _ e).2;omega,fun e=>by have:=(rw1.lt _ e).2;omega⟩
     have HS:Hid (LS A ns P kb W6 k gd od q7 d (E+(s.regions.map (hJ d)).sum+jw) Pw Rw wr kw ins ys id lv ai ci aw cw/\Below wr.heap.size wr W2/\W2.heap[q12]?=some (.cells #[.pointer (some ⟨gy,jw*7,none⟩),.int .i64 0,.int .i64 (-1)] 303 (0,0))/\iV A wr gy (jw*7) y yp yq/\q12=wr.heap.size):=⟨hS,hb2,hk2,hyM,hq12⟩
     have HY:Hid (s.ways[jw]?=some y/\ys.length=jw/\Z=((if 1<y.times then Em.kept 0 else pure (-1)) >>= fun p=>Em.jP (bA L) (s.ways.drop (jw+1)) >>= fun t=>pure ⟨s,(ys++[⟨y,eB (bA L) y.to,p⟩])++t,ins,id,lv⟩) kw/\(∀y∈ys,vS ns L.length y)/\tgt=eB (bA L) y.to/\∀p,vS ns L.length ⟨y,eB (bA L) y.to,p⟩):=⟨hy,hr1,by rw[hr2,dR hy];exact congrFun (F6 (g:=fun l=>pure ⟨s,l,ins,id,lv⟩)) kw,hr3,hto,fun p=>by
      have m:=List.mem_of_getElem? hy
      obtain ⟨⟨t,ht⟩,_,h2⟩:=H0.out.2.2.1 y m
      have h1:=H0.out.1.wy y m
      have h3:=(sK ht).1
      rw[nC] at h3
      exact ⟨h1.1,h1.2,by show 0≤eB (bA L) y.to/\eB (bA L) y.to<_;unfold eB;rw[ht];exact ⟨by simp,by simpa using h3⟩,h2⟩⟩
     obtain ⟨tm,htm⟩:∃tm,tm=y.times:=⟨_,rfl⟩
     have HT:Hid (tm=y.times):=htm
     clear htm hto hy hyM hyM2 hr hr1 hr2 hr3 hS hb2 hk2 kp2 kp0 kp hst hq3 hT ri1 ri2 rw1 rw2 xi xw
     go_upto_region 14 with fail
     rw[<-hW2,<-hq12]
     clear hW2 hq12 e7 hix
     go_upto_region 15 with (go_at_call 200;refine hfind.mono ?_;rintro e w3 ⟨rfl,h3⟩;have k3:=aH h3.out HS.out.2.2.1;have z1:=aA k3 1 rfl;have f1:=aE k3 1)
     obtain ⟨W4,hW4⟩:∃W4,W4=w3.setCell ⟨q12,1,none⟩ (.int .i64 tgt):=⟨_,rfl⟩
     rw[<-hW4]
     have k4:W4.heap[q12]?=some (.cells #[.pointer (some ⟨gy,jw*7,none⟩),.int .i64 tgt,.int .i64 (-1)] 303 (0,0)):=by
      rw[hW4]
      exact bQ (l:=[Value.pointer (some ⟨gy,jw*7,none⟩),.int .i64 0,.int .i64 (-1)]) (aH h3.out HS.out.2.2.1) 1 (.int .i64 tgt)
     have S3:=(HS.out.1.below HS.out.2.1).below h3.out
     have S4:LS A ns P kb W6 k gd od q7 d (E+(s.regions.map (hJ d)).sum+jw) Pw Rw W4 kw ins ys id lv ai ci aw cw:=by rw[hW4];exact S3.loc HA6.out.1 QQ.out 1 _
     have nA4:∀x,A x->x≠q12:=fun x hx e=>by have:=HA6.out.1 x hx;have:=QQ.out.1;omega
     have kp4:aX A A wr W4:=fun x hx hl=>⟨hx,by rw[hW4,Below.heap_setCell _ _ _ _ (nA4 x hx),h3.out.block x (Nat.lt_of_lt_of_le hl HS.out.2.1.size),HS.out.2.1.block x hl]⟩
     have hAg:A gy:=(HWY.out.1 (by omega)).2
     have hyM4:=iV.carry kp4 hAg HS.out.2.2.2.1
     have c3:W4.cell? ⟨gy,jw*7+3,none⟩=some (.int .i64 (tm:Int)):=by rw[HT.out];exact hyM4.2.2.2.1
     have b0:=aA k4 0 rfl
     have hbud:E+(s.regions.map (hJ d)).sum+jw<1000000:=by
      have h1:=HH.out.2.2.2.2.1
      unfold iW at h1
      have:=HE.out.2.2.1
      omega
     have hkept:=xO S4.cm hbud (x:=0) (by unfold eF;omega)
     have HS4:Hid (LS A ns P kb W6 k gd od q7 d (E+(s.regions.map (hJ d)).sum+jw) Pw Rw W4 kw ins ys id lv ai ci aw cw/\W4.heap[q12]?=some (.cells #[.pointer (some ⟨gy,jw*7,none⟩),.int .i64 tgt,.int .i64 (-1)] 303 (0,0))/\iV A W4 gy (jw*7) y yp yq/\A gy/\E+(s.regions.map (hJ d)).sum+jw<1000000):=⟨S4,k4,hyM4,hAg,hbud⟩
     clear hW4 k4 S3 S4 nA4 kp4 hAg hyM4 HS h3 hfind c5 a0 hbud
     by_cases htm:1<tm
     ·go_upto_region 17 with (go_at_call 146;refine hkept.mono ?_;rintro e w5 ⟨rfl,h5⟩;have k5:=h5.out.2.heap HS4.out.2.1 QQ.out.2.1;have z2:=aA k5 2 rfl;have f2:=aE k5 2)
      obtain ⟨X,hX⟩:∃X,X=w5.setCell ⟨q12,2,none⟩ (.int .i64 kw.net.places):=⟨_,rfl⟩
      rw[<-hX]
      have S5:=LS.coder HA6.out.2.1 HS4.out.1 h5.out.1 (fun x hx=>hx) (R':=fun _=>False) (fun _ _ h=>h) (fun _ h=>h.elim) h5.out.2 (by show kw.net.places≤kw.net.places+1;omega)
      have q4:q12<W4.heap.size:=aB HS4.out.2.1
      have S6:LS A ns P kb W6 k gd od q7 d (E+(s.regions.map (hJ d)).sum+(jw+1)) (Up Pw W4 w5) (fun x=>Rw x\/False) X (bD (aQ kw 0) kw.net.places) ins ys id lv ai ci aw cw:=by
       rw[hX,<-Nat.add_assoc]
       exact S5.loc HA6.out.1 ⟨QQ.out.1,fun h=>h.elim QQ.out.2.1 fun h=>by omega,fun h=>h.elim QQ.out.2.2.1 fun h=>h,QQ.out.2.2.2⟩ 2 _
      have k6:X.heap[q12]?=some (.cells #[.pointer (some ⟨gy,jw*7,none⟩),.int .i64 tgt,.int .i64 kw.net.places] 303 (0,0)):=by
       rw[hX]
       exact bQ (l:=[Value.pointer (some ⟨gy,jw*7,none⟩),.int .i64 tgt,.int .i64 (-1)]) (h5.out.2.heap HS4.out.2.1 QQ.out.2.1) 2 (.int .i64 kw.net.places)
      have kp6:aX A A W4 X:=fun x hx hl=>⟨hx,by rw[hX,Below.heap_setCell _ _ _ _ (show x≠q12 from fun e=>by have:=HA6.out.1 x hx;have:=QQ.out.1;omega)];exact h5.out.2.block x hl fun hp=>hP6 x hp hx⟩
      have HX:Hid (LS A ns P kb W6 k gd od q7 d (E+(s.regions.map (hJ d)).sum+(jw+1)) (Up Pw W4 w5) (fun x=>Rw x\/False) X (bD (aQ kw 0) kw.net.places) ins ys id lv ai ci aw cw/\X.heap[q12]?=some (.cells #[.pointer (some ⟨gy,jw*7,none⟩),.int .i64 tgt,.int .i64 kw.net.places] 303 (0,0))/\iV A X gy (jw*7) y yp yq/\A gy):=⟨S6,k6,iV.carry kp6 HS4.out.2.2.2.1 HS4.out.2.2.1,HS4.out.2.2.2.1⟩
      have HZ2:Hid (Z=(Em.jP (bA L) (s.ways.drop (jw+1)) >>= fun t=>pure ⟨s,(ys++[⟨y,eB (bA L) y.to,kw.net.places⟩])++t,ins,id,lv⟩) (bD (aQ kw 0) kw.net.places)):=by
       have h:=HY.out.2.2.1
       rw[if_pos (by rw[<-HT.out];exact htm)] at h
       exact h.trans (A9 (Fq kw 0))
      obtain ⟨lf,hlf⟩:∃lf,lf=kw.net.places:=⟨_,rfl⟩
      clear hX S5 S6 k6 kp6 h5 hkept c3 b0 HS4 q4 hlf
      obtain ⟨xw,rw1,rw2⟩:=HX.out.1.rwy
      have lq7:=aB HX.out.1.hq
      have x1:X.cell? ⟨q7,1,none⟩=some (.slice aw jw cw):=by rw[<-HY.out.2.1];exact aA HX.out.1.hq 1 rfl
      have ri0:X.ownsRow 0 303 3 (.slice aw jw cw) jw xw:=by rw[<-HY.out.2.1];exact rw1
      have HRW:Hid (Rows (Gq A X) ys xw):=rw2
      have b0:=aA HX.out.2.1 0 rfl
      have b1:=aA HX.out.2.1 1 rfl
      have b2:=aA HX.out.2.1 2 rfl
      clear rw1 rw2
      go_wp2_with (at_builtin;refine wpList_append_own_at _ rfl (.tmp 103) (.tmp 105) 266 rfl 0 303 j0 _ 3 24 Tryz.underlying266 hj0 hy0 hy1 hy2 rfl (by decide) _ _ _ rfl (ri0.alloc _) ⟨X.heap.size,0,none⟩ 1 1 [.pointer (some ⟨gy,jw*7,none⟩),.int .i64 tgt,.int .i64 kw.net.places] rfl rfl (dX _ _ _) (by intro u hu;simp at hu;rcases hu with rfl|rfl|rfl<;>rfl) (by unfold maxLen;omega) (by omega) (by simp) ?_;intro v6 w6 hown6 hgrow _ hat;obtain ⟨a6,m6,e6⟩:=aJ hown6;subst e6;have hk6:w6.heap[q7]?=X.heap[q7]?:=by { rw[hgrow.block q7 (by simp;omega) (fun e=>(HX.out.1.ow q7 (by rw[HY.out.2.1];exact e.symm)).2.2.2.1 rfl),Below.heap_alloc _ _ _ lq7] };have hk7:=hk6.trans HX.out.1.hq;have z1:=aA hk7 1 rfl;have f1:=aE hk7 1)
      go_roundg (N-(jw+1))
      case measure=>omega
      case rel=>
       have hfin:=LS.appW HX.out.1 HA6.out.1 (w5:=w6) (a5:=a6) (c5:=m6) (gy:=gy) (oy:=jw*7) (pc:=yp) (qs:=yq) (y:=⟨y,eB (bA L) y.to,kw.net.places⟩) (xw:=xw) HRW.out HX.out.2.2.2 HX.out.2.2.1 (by rw[HY.out.2.1];show w6.ownsRow _ _ _ _ _ (xw++[_,.int .i64 (eB (bA L) y.to),_]);rw[<-HY.out.2.2.2.2.1];exact hown6) (by rw[HY.out.2.1];exact hgrow) (by rw[HY.out.2.1];exact hat)
       rw[HY.out.2.1] at hfin
       exact ⟨jw+1,(bD (aQ kw 0) kw.net.places),ys++[⟨y,eB (bA L) y.to,kw.net.places⟩],a6,m6,by omega,by omega,by go_num,by rw[List.length_append,HY.out.2.1];rfl,HZ2.out,fun z hz=>(List.mem_append.1 hz).elim (HY.out.2.2.2.1 z) fun h=>by rw[List.mem_singleton.1 h];exact HY.out.2.2.2.2.2 _,_,_,hfin⟩
     ·clear hkept
      go_upto_region 17 with fail
      have HX:Hid (LS A ns P kb W6 k gd od q7 d (E+(s.regions.map (hJ d)).sum+(jw+1)) Pw Rw W4 kw ins ys id lv ai ci aw cw/\W4.heap[q12]?=some (.cells #[.pointer (some ⟨gy,jw*7,none⟩),.int .i64 tgt,.int .i64 (-1)] 303 (0,0))/\iV A W4 gy (jw*7) y yp yq/\A gy):=⟨HS4.out.1.moreE (by omega) (by have:=HS4.out.2.2.2.2;omega),HS4.out.2.1,HS4.out.2.2.1,HS4.out.2.2.2.1⟩
      have HZ2:Hid (Z=(Em.jP (bA L) (s.ways.drop (jw+1)) >>= fun t=>pure ⟨s,(ys++[⟨y,eB (bA L) y.to,-1⟩])++t,ins,id,lv⟩) kw):=by
       have h:=HY.out.2.2.1
       rw[if_neg (by rw[<-HT.out];exact htm)] at h
       rw[pure_bind] at h
       exact h
      obtain ⟨X,hX⟩:∃X,X=W4:=⟨_,rfl⟩
      rw[<-hX] at HX ⊢
      clear hX HS4 c3 b0
      obtain ⟨xw,rw1,rw2⟩:=HX.out.1.rwy
      have lq7:=aB HX.out.1.hq
      have x1:X.cell? ⟨q7,1,none⟩=some (.slice aw jw cw):=by rw[<-HY.out.2.1];exact aA HX.out.1.hq 1 rfl
      have ri0:X.ownsRow 0 303 3 (.slice aw jw cw) jw xw:=by rw[<-HY.out.2.1];exact rw1
      have HRW:Hid (Rows (Gq A X) ys xw):=rw2
      have b0:=aA HX.out.2.1 0 rfl
      have b1:=aA HX.out.2.1 1 rfl
      have b2:=aA HX.out.2.1 2 rfl
      clear rw1 rw2
      go_wp2_with (at_builtin;refine wpList_append_own_at _ rfl (.tmp 103) (.tmp 105) 266 rfl 0 303 j0 _ 3 24 Tryz.underlying266 hj0 hy0 hy1 hy2 rfl (by decide) _ _ _ rfl (ri0.alloc _) ⟨X.heap.size,0,none⟩ 1 1 [.pointer (some ⟨gy,jw*7,none⟩),.int .i64 tgt,.int .i64 (-1)] rfl rfl (dX _ _ _) (by intro u hu;simp at hu;rcases hu with rfl|rfl|rfl<;>rfl) (by unfold maxLen;omega) (by omega) (by simp) ?_;intro v6 w6 hown6 hgrow _ hat;obtain ⟨a6,m6,e6⟩:=aJ hown6;subst e6;have hk6:w6.heap[q7]?=X.heap[q7]?:=by { rw[hgrow.block q7 (by simp;omega) (fun e=>(HX.out.1.ow q7 (by rw[HY.out.2.1];exact e.symm)).2.2.2.1 rfl),Below.heap_alloc _ _ _ lq7] };have hk7:=hk6.trans HX.out.1.hq;have z1:=aA hk7 1 rfl;have f1:=aE hk7 1)
      go_roundg (N-(jw+1))
      case measure=>omega
      case rel=>
       have hfin:=LS.appW HX.out.1 HA6.out.1 (w5:=w6) (a5:=a6) (c5:=m6) (gy:=gy) (oy:=jw*7) (pc:=yp) (qs:=yq) (y:=⟨y,eB (bA L) y.to,(-1)⟩) (xw:=xw) HRW.out HX.out.2.2.2 HX.out.2.2.1 (by rw[HY.out.2.1];show w6.ownsRow _ _ _ _ _ (xw++[_,.int .i64 (eB (bA L) y.to),_]);rw[<-HY.out.2.2.2.2.1];exact hown6) (by rw[HY.out.2.1];exact hgrow) (by rw[HY.out.2.1];exact hat)
       rw[HY.out.2.1] at hfin
       exact ⟨jw+1,kw,ys++[⟨y,eB (bA L) y.to,(-1)⟩],a6,m6,by omega,by omega,by go_num,by rw[List.length_append,HY.out.2.1];rfl,HZ2.out,fun z hz=>(List.mem_append.1 hz).elim (HY.out.2.2.2.1 z) fun h=>by rw[List.mem_singleton.1 h];exact HY.out.2.2.2.2.2 _,_,_,hfin⟩
    ·have hZF:Z=some ((⟨s,ys,ins,id,lv⟩:eM (St d) (Rg d)),kw):=by
      rw[hr2,List.drop_eq_nil_of_le (by rw[<-HE.out.2.2.1];omega)]
      show (pure (⟨s,ys++[],ins,id,lv⟩:eM (St d) (Rg d)):Em.M _) kw=_
      rw[List.append_nil]
      rfl
     have q6k:=hS.fr.heap HA6.out.2.2.2.2.2.2 HA6.out.2.2.2.2.1
     have HS:Hid (LS A ns P kb W6 k gd od q7 d (E+(s.regions.map (hJ d)).sum+jw) Pw Rw wr kw ins ys id lv ai ci aw cw):=hS
     have HF:Hid (Z=some ((⟨s,ys,ins,id,lv⟩:eM (St d) (Rg d)),kw)/\(∀y∈ys,vS ns L.length y)/\ys.length=jw/\wr.heap[q6]?=some (.cells #[.pointer none,.slice none 0 0,.slice none 0 0,.bool false,.bool false] 269 (0,0))):=⟨hZF,hr3,hr1,q6k⟩
     obtain ⟨nw,hnw⟩:∃nw,nw=ys.length:=⟨_,rfl⟩
     obtain ⟨ni,hni⟩:∃ni,ni=ins.length:=⟨_,rfl⟩
     have HN:Hid (nw=ys.length/\ni=ins.length):=⟨hnw,hni⟩
     have q7k:=hS.hq
     rw[<-hnw,<-hni] at q7k
     have g0:=aA q7k 0 rfl
     have g1:=aA q7k 1 rfl
     have g2:=aA q7k 2 rfl
     have g3:=aA q7k 3 rfl
     have g4:=aA q7k 4 rfl
     have p0:=aA q6k 0 rfl
     have p1:=aA q6k 1 rfl
     have p2:=aA q6k 2 rfl
     have p3:=aA q6k 3 rfl
     have p4:=aA q6k 4 rfl
     have f0:=aE q6k 0
     have f1:=aE q6k 1
     have f2:=aE q6k 2
     have f3:=aE q6k 3
     have f4:=aE q6k 4
     clear hZF hr hr1 hr2 hr3 hS hnw hni q7k q6k kp0 kp
     go_wp2_with fail
     obtain ⟨WF,hWF⟩:∃WF,WF=((((wr.setCell ⟨q6,0,none⟩ (.pointer (some ⟨gd,od,none⟩))).setCell ⟨q6,1,none⟩ (.slice aw nw cw)).setCell ⟨q6,2,none⟩ (.slice ai ni ci)).setCell ⟨q6,3,none⟩ (.bool id)).setCell ⟨q6,4,none⟩ (.bool lv):=⟨_,rfl⟩
     have kF:WF.heap[q6]?=some (.cells #[.pointer (some ⟨gd,od,none⟩),.slice aw nw cw,.slice ai ni ci,.bool id,.bool lv] 269 (0,0)):=by
      rw[hWF]
      have h0:=bQ (l:=[Value.pointer none,.slice none 0 0,.slice none 0 0,.bool false,.bool false]) HF.out.2.2.2 0 (.pointer (some ⟨gd,od,none⟩))
      have h1:=bQ (l:=[Value.pointer (some ⟨gd,od,none⟩),.slice none 0 0,.slice none 0 0,.bool false,.bool false]) h0 1 (.slice aw nw cw)
      have h2:=bQ (l:=[Value.pointer (some ⟨gd,od,none⟩),.slice aw nw cw,.slice none 0 0,.bool false,.bool false]) h1 2 (.slice ai ni ci)
      have h3:=bQ (l:=[Value.pointer (some ⟨gd,od,none⟩),.slice aw nw cw,.slice ai ni ci,.bool false,.bool false]) h2 3 (.bool id)
      exact bQ (l:=[Value.pointer (some ⟨gd,od,none⟩),.slice aw nw cw,.slice ai ni ci,.bool id,.bool false]) h3 4 (.bool lv)
     have hfF:bH (fun x=>x=q6) wr WF:=by
      rw[hWF]
      have st:∀(W:World) (j:Nat) (v:Value),bH (fun x=>x=q6) wr W->bH (fun x=>x=q6) wr (W.setCell ⟨q6,j,none⟩ v):=fun W j v h=>h.setCell (p:=⟨q6,j,none⟩) (.inl rfl) v
      exact st _ _ _ (st _ _ _ (st _ _ _ (st _ _ _ (st _ _ _ (bH.refl _ _)))))
     have hss:∀(W:World) (a:Addr) (v:Value),(W.setCell a v).heap.size=W.heap.size:=fun W a v=>by simp[World.setCell]
     have hzF:WF.heap.size=wr.heap.size:=by rw[hWF,hss,hss,hss,hss,hss]
     clear hss
     rw[<-hWF]
     have HFF:Hid (bH (fun x=>x=q6) wr WF/\WF.heap.size=wr.heap.size):=⟨hfF,hzF⟩
     refine bodyPost_ret (Bv _ _ q6 #[.pointer (some ⟨gd,od,none⟩),.slice aw nw cw,.slice ai ni ci,.bool id,.bool lv] rfl rfl kF) rfl ?_
     clear hWF kF hfF hzF g0 g1 g2 g3 g4 p0 p1 p2 p3 p4 f0 f1 f2 f3 f4
     obtain ⟨R,t1,t2,t3,t4,t5,t6,t7⟩:=HS.out.done (s:=s) (q6:=q6) (w0:=w) (wf:=WF) HH.out.2.2.2.1 HB6.out.1 HB6.out.2.2 HB6.out.2.1 HH.out.2.2.1.2.2 ⟨HD.out.1,HD.out.2.1,⟨_,HD.out.2.2.1⟩,⟨_,HD.out.2.2.2.1⟩,⟨_,HD.out.2.2.2.2.1⟩,⟨_,HD.out.2.2.2.2.2.1⟩⟩ HFF.out.1 HFF.out.2
     have eE:E+(s.regions.map (hJ d)).sum+jw=E+iW (hJ d) s:=by
      unfold iW
      have:=HE.out.2.2.1
      omega
     rw[eE] at t1
     refine ⟨aw,nw,cw,ai,ni,ci,id,lv,rfl,?_⟩
     rw[HN.out.1,HN.out.2]
     exact ⟨⟨s,ys,ins,id,lv⟩,kw,Pw,R,HZ.out.symm.trans HF.out.1,rfl,rfl,t1,t2,t3,t4,t5,t6,t7,⟨H0.out.1.en,H0.out.1.du,H0.out.1.le,H0.out.1.re,HF.out.2.1,by show ys.length≤1000000;have:=HF.out.2.2.1;omega,HK.out.2,HK.out.1⟩⟩
end
end Ew
end Go.Proofs.YtcdbhoknhnimcaaGreatDoor
