import Derived.Test.YtcdbhoknhnimcaaGreatDoorTFd
import Derived.Test.YtcdbhoknhnimcaaGreatDoorTNt3
set_option maxRecDepth 100000
set_option maxHeartbeats 8000000
namespace Go.Proofs.YtcdbhoknhnimcaaGreatDoor
section
open Go.RowKit Go.Sort Px
namespace Fw
open Nx (Nt Sp asks bL dI cH lS qS)
open Ew (bH Up rA Dj dX fL)
section
variable {P A:Nat->Prop}{w:World}{fb m:Nat}{f:Nx.Fd}
theorem pP.but {w':World}{q:Nat}(h:pP P w fb m f) (hs:w.heap.size≤w'.heap.size) (hk:∀b,b≠q->b<w.heap.size->w'.heap[b]?=w.heap[b]?) (hq:¬P q):pP P w' fb m f:=
 ⟨h.1.imp fun _ h=>h.carry fun b hp hl=>⟨hp,hk b (fun e=>hq (e▸hp)) hl⟩,fun b hp=>Nat.lt_of_lt_of_le (h.2 b hp) hs⟩
theorem aF6 {w2 w3:World}{c:Nat}{a0 a1 a2 a3 a4:Value}(h:bH P w w2) (hc:w.heap.size≤c) (hw:w3=((((w2.setCell ⟨c,0,none⟩ a0).setCell ⟨c,1,none⟩ a1).setCell ⟨c,2,none⟩ a2).setCell ⟨c,3,none⟩ a3).setCell ⟨c,4,none⟩ a4):bH P w w3:=by
 have st:∀(W:World) (j:Nat) (u:Value),bH P w W->bH P w (W.setCell ⟨c,j,none⟩ u):=fun W j u h=>h.setCell (p:=⟨c,j,none⟩) (.inr hc) u
 rw[hw]
 exact st _ _ _ (st _ _ _ (st _ _ _ (st _ _ _ (st _ _ _ h))))
theorem Dh {L p:Int}(hL:L≤4000) (h:cH L p=true):eF p:=by
 unfold cH at h
 simp only[Bool.and_eq_true,decide_eq_true_eq] at h
 unfold eF
 omega
theorem Xd {L:Int}{N:Nat}{s:Sp}(h:dI L N s=0) (h1:s.code=1):0≤s.a/\s.a<N:=by
 unfold dI at h
 split at h
 ·omega
 ·split at h
  ·omega
  ·split at h
   ·omega
   ·rename_i h3;omega
theorem J4 {L:Int}{N:Nat}{s:Sp}(hL:L≤4000) (h:dI L N s=0):∀p∈asks s,eF p:=fun p hp=>Dh hL (List.all_eq_true.1 (Nx.tY h).2 p hp)
theorem a64 {L:Int}{N:Nat}{s:Sp}(hL:L≤4000) (hN:N≤100000) (h:dI L N s=0):eF s.a:=by
 by_cases h1:s.code=1
 ·have:=Xd h h1
  unfold eF
  omega
 ·exact J4 hL h _ (Sc h1 (Nx.Gi h))
theorem Qt {kn:Int->Option Int}{L:Int}{N:Nat}{s:Sp}(hL:L≤4000) (h:dI L N s=0):∀p∈asks (lS kn s),eF p:=by
 intro p hp
 unfold lS at hp
 split at hp
 ·rename_i h17
  have e:asks s=[s.a,s.b,s.c]:=by unfold asks;rw[if_neg (by omega),if_neg (by omega),if_pos h17]
  have ha:=J4 hL h
  rw[e] at ha
  split at hp
  ·exact ha p (by rw[<-e];exact hp)
  ·rename_i x _
   have:p=mI x s.b s.c:=by simpa [asks] using hp
   rw[this]
   unfold mI
   split
   ·exact ha _ (by simp)
   ·exact ha _ (by simp)
 ·exact J4 hL h p hp
theorem aF7 {kn:Int->Option Int}{L:Int}{N:Nat}{s:Sp}(h:dI L N s=0) (h1:(lS kn s).code=1):0≤(lS kn s).a/\(lS kn s).a<N:=by
 unfold lS at h1 ⊢
 split
 ·rename_i h17
  rw[if_pos h17] at h1
  split at h1
  ·omega
  ·simp at h1
 ·rename_i h17
  rw[if_neg h17] at h1
  exact Xd h h1
theorem aF4 {l:List Int}(h:∀x∈l,eF x) (i:Int):eF (Nx.get l i):=by
 unfold Nx.get
 split
 ·rw[List.getD_eq_getElem?_getD]
  cases e:l[i.toNat]? with
  | none=>exact eF.zero
  | some x=>exact h x (List.mem_of_getElem? e)
 ·exact eF.zero
theorem aE1 {kn:Int->Option Int}(h:∀p v,kn p=some v->eF v) (p:Int):eF ((kn p).getD 0):=by
 cases e:kn p with
 | none=>exact eF.zero
 | some x=>exact h p x e
theorem Xm {kn:Int->Option Int}{old:List Int}{s:Sp}{v:Int}(h:∀p v,kn p=some v->eF v) (ho:∀x∈old,eF x) (hv:qS kn old s=some v):eF v:=by
 unfold qS at hv
 split at hv
 ·injection hv with hv
  rw[<-hv]
  split
  ·exact aF4 ho _
  ·split
   ·exact aE1 h _
   ·split
    ·exact Mf _ _
    ·exact Me (aE1 h _)
 ·exact absurd hv (by simp)
theorem Qq {old:List Int}{s:Sp}(h:∀p v,f.kn p=some v->eF v) (ho:∀x∈old,eF x):∀p v,(Nx.kD old f s).kn p=some v->eF v:=fun p v hv=>by
 have hv:Nx.Hg f.kn s.dst (qS f.kn old (lS f.kn s)) p=some v:=hv
 unfold Nx.Hg at hv
 split at hv
 ·exact Xm h ho hv
 ·exact h p v hv
def mid (f:Nx.Fd) (d:Int) (r:Option Int):Nx.Fd:=⟨Nx.Hg f.kn d r,(match r with|some v=>Nx.sQ f.nums v|none=>f.nums),f.code⟩
def Ls (f:Nx.Fd) (d:Int) (t:Sp):Option Int->Sp
 | some v=>⟨1,d,(f.nums.idxOf v:Nat),0,0⟩
 | none=>t
theorem Kj (f:Nx.Fd) (old:List Int) (s:Sp):Nx.yL f old s=Ls f s.dst (lS f.kn s) (qS f.kn old (lS f.kn s)):=by
 unfold Nx.yL Ls
 cases qS f.kn old (lS f.kn s)<;>rfl
def aB0 (P:Nat->Prop) (q fb m:Nat) (f:Nx.Fd) (s:Sp) (w w':World):Prop:=
 pP (Up P w w') w' fb m f/\bH P w w'/\w'.heap[q]?=some (.cells #[.int .i64 s.code,.int .i64 s.dst,.int .i64 s.a,.int .i64 s.b,.int .i64 s.c] 39 (0,0))
theorem pP.setK {w':World}{c:Fv}{g:Lit->Option Value}{n':Nat}{kn':Int->Option Int}(h:FM P w fb m f c) (hP:∀b,P b->b<w.heap.size) (hm:Gm.Mp Tryz.prog 3 w' c.bk n' g) (hg:∀p:Int,g (.int .i64 p)=(kn' p).map (Value.int .i64)) (hgr:w.grownBy w' (some c.bk)) (hn:n'≤m+1) (hm1:m<100000):pP P w' fb (m+1) { f with kn:=kn' }/\bH P w w':=by
 obtain ⟨p1,p2⟩:=FM.setK (m:=m+1) { h with few:=by have:=h.few;omega } hm hg hgr hn
 exact ⟨⟨⟨_,p1⟩,fun b hb=>Nat.lt_of_lt_of_le (hP b hb) p2.size⟩,p2⟩
theorem Db {p d:Int}(h:¬p=d):(Lit.int .i64 p:Lit)≠.int .i64 d:=by
 intro e
 injection e with _ e
 exact h e
theorem Uc {g:Lit->Option Value}{kn:Int->Option Int}(hg:∀p:Int,g (.int .i64 p)=(kn p).map (Value.int .i64)) (d v:Int):∀p:Int,Gm.put g (.int .i64 d) (.int .i64 v) (.int .i64 p)=(Nx.Hg kn d (some v) p).map (Value.int .i64):=fun p=>by
 unfold Nx.Hg
 by_cases h:p=d
 ·subst h
  rw[Gm.lQ _ (by trivial),if_pos rfl];rfl
 ·rw[Gm.kB _ _ (Db h),if_neg h];exact hg p
theorem We {g:Lit->Option Value}{kn:Int->Option Int}(hg:∀p:Int,g (.int .i64 p)=(kn p).map (Value.int .i64)) (d:Int):∀p:Int,Gm.del g (.int .i64 d) (.int .i64 p)=(Nx.Hg kn d none p).map (Value.int .i64):=fun p=>by
 unfold Nx.Hg
 by_cases h:p=d
 ·subst h
  rw[Gm.o9 _ (by trivial),if_pos rfl];rfl
 ·rw[Gm.zZ _ (Db h),if_neg h];exact hg p
theorem qE {L:Int}{s:Sp}{vO:Value}{old:List Int}(h:pP P w fb m f) (hO:bL A w vO old) (hAP:∀b,A b->¬P b) (hL:L≤4000) (hN:old.length≤100000) (hs:dI L old.length s=0) (hkn:∀p v,f.kn p=some v->eF v) (hold:∀x∈old,eF x) (hm:m+2≤100000) :
    Calls Tryz.prog 30 #[.pointer (some ⟨fb,0,none⟩),spV s,vO] w fun e w'=>e=.returned (.tuple #[])/\Hid (pP (Up P w w') w' fb (m+2) (Nx.kD old f s)/\bH P w w'):=by
 obtain ⟨U,hU⟩:∃U,U=w.alloc (.cells #[.int .i64 s.code,.int .i64 s.dst,.int .i64 s.a,.int .i64 s.b,.int .i64 s.c] 39):=⟨_,rfl⟩
 obtain ⟨q,hq⟩:∃q,q=w.heap.size:=⟨_,rfl⟩
 have bU:Below w.heap.size w U:=by rw[hU];exact aC _ _
 have kU:U.heap[q]?=some (.cells #[.int .i64 s.code,.int .i64 s.dst,.int .i64 s.a,.int .i64 s.b,.int .i64 s.c] 39 (0,0)):=by rw[hU,hq];exact bE w _
 have hPq:¬P q:=fun hp=>by have:=h.2 q hp;omega
 have hh:=Dn (s:=s) (h.below bU) (a64 hL hN hs)
 obtain ⟨t,ht⟩:∃t,t=lS f.kn s:=⟨_,rfl⟩
 rw[<-ht] at hh
 obtain ⟨r,hr⟩:∃r,r=qS f.kn old t:=⟨_,rfl⟩
 have HT:Hid ((1≤t.code/\t.code≤17/\t.code≠3)/\(t.code=17->f.kn t.a=none)/\(∀p∈asks t,eF p)/\(t.code=1->0≤t.a/\t.a<old.length)/\t.dst=s.dst/\eF s.dst/\r=qS f.kn old t/\t=lS f.kn s):=by
  refine ⟨?_,?_,?_,?_,?_,Dh hL (Nx.tY hs).1,hr,ht⟩
  ·rw[ht];exact Nx.Z6 _ hs
  ·rw[ht];exact Nx.Qu
  ·rw[ht];exact Qt hL hs
  ·rw[ht];exact aF7 hs
  ·rw[ht];exact Nx.Gd _ _
 have HR:Hid (∀v,r=some v->eF v):=fun v hv=>Xm hkn hold (hr.symm.trans hv)
 obtain ⟨c0,c1,c2,c3,c4⟩:=iT kU
 have HL:Hid (f.code.length<m+2):=by { obtain ⟨⟨c,hc⟩,-⟩:=id h;have:=hc.few;unfold Hid;omega }
 have HU:Hid (pP P w fb m f/\bL A w vO old/\(∀b,A b->¬P b)/\Below w.heap.size w U/\U.heap[q]?=some (.cells #[.int .i64 s.code,.int .i64 s.dst,.int .i64 s.a,.int .i64 s.b,.int .i64 s.c] 39 (0,0))/\q=w.heap.size/\¬P q):=⟨h,hO,hAP,bU,kU,hq,hPq⟩
 have HE:Hid (Nx.kD old f s={ mid f s.dst r with code:=f.code++[Nx.yL f old s] }/\Nx.yL f old s=Ls f s.dst t r):=by
  refine ⟨?_,?_⟩
  ·unfold Nx.kD mid;rw[<-ht,<-hr];rfl
  ·rw[Kj,<-ht,<-hr]
 obtain ⟨sc,sd,sa,sb,se⟩:=s
 obtain ⟨tc,td,ta,tb,te⟩:=t
 clear h hO hAP hs bU kU hPq hr ht hkn hold
 go_enter Tryz.func30,Tryz.ntmps30
 go_upto_region 1 with fail
 rw[<-hU,<-hq]
 clear hU hq
 go_upto_region 2 with (go_at_call 58;refine hh.mono ?_;rintro e w1 ⟨rfl,h1⟩;have k1:=aH h1.out HU.out.2.2.2.2.1;obtain ⟨z0,z1,z2,z3,z4⟩:=iT k1;have zf:=fun o=>aE k1 o)
 obtain ⟨X,hX⟩:∃X,X=((((w1.setCell ⟨q,0,none⟩ (.int .i64 tc)).setCell ⟨q,1,none⟩ (.int .i64 td)).setCell ⟨q,2,none⟩ (.int .i64 ta)).setCell ⟨q,3,none⟩ (.int .i64 tb)).setCell ⟨q,4,none⟩ (.int .i64 te):=⟨_,rfl⟩
 rw[<-hX]
 obtain ⟨y0,y1,y2,y3⟩:=Ms k1 hX
 have HX:Hid (pP P X fb m f/\bL A X vO old/\bH P w X/\X.heap[q]?=some (.cells #[.int .i64 tc,.int .i64 td,.int .i64 ta,.int .i64 tb,.int .i64 te] 39 (0,0))):=by
  obtain ⟨u1,u2,u3,u4,u5,u6,u7⟩:=HU.out
  have b1:Below w.heap.size w w1:=aN u4 h1.out
  refine ⟨(u1.below b1).but (by rw[y3];exact Nat.le_refl _) (fun b hb _=>y1 b hb) u7,?_,aF6 (bH.of_below b1) (by omega) hX,y0⟩
  exact u2.carry fun b hb hl=>⟨hb,by rw[y1 b (by omega),b1.block b hl]⟩
 clear hX y1 y2 y3 k1 z0 z1 z2 z3 z4 zf h1 hh c0 c1 c2 c3 c4
 obtain ⟨c0,c1,c2,c3,c4⟩:=iT y0
 clear y0
 have hn:=dB (s:=⟨tc,td,ta,tb,te⟩) HX.out.1 HX.out.2.1 HT.out.1 HT.out.2.1 HT.out.2.2.1 HT.out.2.2.2.1
 rw[<-HT.out.2.2.2.2.2.2.1] at hn
 go_upto_region 3 with (go_at_call 59;refine hn.mono ?_;rintro e w2 ⟨rfl,h2⟩)
 have H2:Hid (pP P w2 fb m f/\bH P w w2/\w2.heap[q]?=some (.cells #[.int .i64 tc,.int .i64 td,.int .i64 ta,.int .i64 tb,.int .i64 te] 39 (0,0))/\q<w2.heap.size):=by
  obtain ⟨u1,u2,u3,u4⟩:=HX.out
  have k2:=aH h2.out u4
  exact ⟨u1.below h2.out,u3.trans (bH.of_below (P:=fun _=>False) h2.out) (fun _ _ h=>h.elim),k2,aB k2⟩
 clear hn h2 HX c0 c1 c2 c3 c4
 obtain rfl:td=sd:=HT.out.2.2.2.2.1
 go_upto_if 18 with fail
 go_cut [] (fun wx=>Hid (aB0 P q fb (m+2) (mid f td r) (Nx.yL f old ⟨sc,td,sa,sb,se⟩) w wx))
 case first=>
  obtain ⟨⟨c,hc⟩,hlt⟩:=H2.out.1
  obtain ⟨d0,d1,d2,d3,df⟩:=hc.cells
  obtain ⟨e0,e1,e2,e3,e4⟩:=iT H2.out.2.2.1
  have ef:=fun o=>aE H2.out.2.2.1 o
  obtain ⟨g,hg1,hg2⟩:=hc.kn
  have hlt':=hc.few
  cases r with
  | none=>
   obtain ⟨w4,n4,hrun,hm4,hn4,hg4⟩:=(hg1.keep (w':=w2.drew) rfl).del tU Tryz.underlying58 (Maps.keyOf_int_mk Tryz.underlying3 HT.out.2.2.2.2.2.1.wf) 0
   have H4:Hid (aB0 P q fb (m+2) (mid f td none) (Nx.yL f old ⟨sc,td,sa,sb,se⟩) w w4):=by
    obtain ⟨v1,v2⟩:=pP.setK (hc.carry (w':=w2.drew) (Q:=P) fun _ hx _=>⟨hx,rfl⟩) hlt hm4 (We hg2 td) hg4 (by omega) (by omega)
    have hfr:=H2.out.2.1.drew.trans v2 fun _ _ h=>h
    refine ⟨(v1.more (by omega) (by omega)).mono (fun b hb=>.inl hb) fun b hb=>fL HU.out.1.2 hfr.size b hb,hfr,?_⟩
    rw[HE.out.2]
    exact v2.heap (w:=w2.drew) H2.out.2.2.1 HU.out.2.2.2.2.2.2
   clear hc hg1 hg2 hm4 hg4
   go_upto_region 6 with fail
   go_region
   all_goals
    go_wp2_with fail
    go_meet
    case rel=>exact H4.out
  | some v=>
   obtain ⟨w4,hrun,hm4,hg4⟩:=(hg1.keep (w':=w2.drew) rfl).put tU Tryz.underlying58 (by unfold maxLen;omega) (Maps.keyOf_int_mk Tryz.underlying3 HT.out.2.2.2.2.2.1.wf) (.int .i64 v)
   have H4:Hid (pP P w4 fb (m+1) { f with kn:=Nx.Hg f.kn td (some v) }/\bH P w w4/\w4.heap[q]?=some (.cells #[.int .i64 tc,.int .i64 td,.int .i64 ta,.int .i64 tb,.int .i64 te] 39 (0,0))):=by
    obtain ⟨v1,v2⟩:=pP.setK (hc.carry (w':=w2.drew) (Q:=P) fun _ hx _=>⟨hx,rfl⟩) hlt hm4 (Uc hg2 td v) hg4 (by split<;>omega) (by omega)
    exact ⟨v1,H2.out.2.1.drew.trans v2 fun _ _ h=>h,v2.heap (w:=w2.drew) H2.out.2.2.1 HU.out.2.2.2.2.2.2⟩
   have hpl:=mO (H4.out.1.below (w':=w4.drew) ((Below.refl _ w4).drew)) (HR.out v rfl) (by omega)
   have k4:=H4.out.2.2
   obtain ⟨x0,x1,x2,x3,x4⟩:=iT k4
   clear hc hg1 hg2 hm4 hg4
   go_upto_region 4 with fail
   go_region
   all_goals
    go_upto_region 5 with fail
    clear e0 e1 e2 e3 e4 ef d0 d1 d2 d3 df
    go_region_law (go_simp;go_at_call 60;refine hpl.mono ?_;rintro e w5 ⟨rfl,h5⟩;have k5:=h5.out.2.heap (w:=w4.drew) k4 HU.out.2.2.2.2.2.2;obtain ⟨e0,e1,e2,e3,e4⟩:=iT k5;have ef:=fun o=>aE k5 o)
    all_goals
     go_wp2_with fail
     obtain ⟨Y,hY⟩:∃Y,Y=((((w5.setCell ⟨q,0,none⟩ (.int .i64 1)).setCell ⟨q,1,none⟩ (.int .i64 td)).setCell ⟨q,2,none⟩ (.int .i64 (f.nums.idxOf v:Nat))).setCell ⟨q,3,none⟩ (.int .i64 0)).setCell ⟨q,4,none⟩ (.int .i64 0):=⟨_,rfl⟩
     rw[<-hY]
     obtain ⟨y0,y1,y2,y3⟩:=Ms k5 hY
     have HY:Hid (aB0 P q fb (m+2) (mid f td (some v)) (Nx.yL f old ⟨sc,td,sa,sb,se⟩) w Y):=by
      obtain ⟨v1,v2⟩:=h5.out
      have hq4:q<w4.heap.size:=aB k4
      have hfr:bH P w w5:=H4.out.2.1.drew.trans v2 fun _ _ h=>h
      have hfy:bH P w Y:=aF6 hfr (by have:=HU.out.2.2.2.2.2.1;omega) hY
      have hnq:¬Up P w4.drew w5 q:=fun hu=>hu.elim HU.out.2.2.2.2.2.2 fun h=>by have:=h.1;have:w4.drew.heap.size=w4.heap.size:=rfl;omega
      refine ⟨(v1.but (by rw[y3];exact Nat.le_refl _) (fun b hb _=>y1 b hb) hnq).mono (fun b hb=>hb.elim .inl fun hb=>.inr ⟨Nat.le_trans H4.out.2.1.size hb.1,by rw[y3];exact hb.2⟩) fun b hb=>fL HU.out.1.2 hfy.size b hb,hfy,?_⟩
      rw[HE.out.2]
      exact y0
     clear hY y0 y1 y2 y3
     go_meet
     case rel=>exact HY.out
 case rest=>
  obtain ⟨⟨⟨c,hc⟩,hlt⟩,hfr,hk⟩:=hcut.out
  obtain ⟨u,hu⟩:∃u,u=Nx.yL f old ⟨sc,td,sa,sb,se⟩:=⟨_,rfl⟩
  rw[<-hu] at hk
  obtain ⟨uc,ud,ua,ub,ue⟩:=u
  obtain ⟨i0,hi,hz0,hz1,hz2⟩:=info_parts Dj
  have hro:wc.ownsRow 0 39 5 c.vC f.code.length (f.code.flatMap rA):=hc.rc
  obtain ⟨ao,cap,e1⟩:=aJ hro
  obtain ⟨d0,d1,d2,d3,df⟩:=hc.cells
  have HC:Hid (FM (Up P w wc) wc fb (m+2) (mid f td r) c/\c.vC=.slice ao f.code.length cap/\bH P w wc/\wc.heap[fb]?=some (.cells #[.map (some c.bk),.map (some c.bw),c.vN,.slice ao f.code.length cap] 61 (0,0))/\(∀g,(Value.slice ao f.code.length cap).ownBlock=some g->g≠fb)/\(⟨uc,ud,ua,ub,ue⟩:Sp)=Nx.yL f old ⟨sc,td,sa,sb,se⟩/\fb<wc.heap.size):=⟨hc,e1,hfr,by rw[<-e1];exact hc.hk,fun g hg=>(hc.pc g (by rw[e1];exact hg)).2.1,hu,aB hc.hk⟩
  rw[e1] at d3 hro
  have hfew:f.code.length≤m+2:=hc.few.2.2.2.1
  obtain ⟨n,hn⟩:∃n,n=f.code.length:=⟨_,rfl⟩
  rw[<-hn] at d3 hro HC hfew
  have HN:Hid (n=f.code.length):=hn
  obtain ⟨e0,e1',e2,e3,e4⟩:=iT hk
  have lfb:=HC.out.2.2.2.2.2.2
  clear hc e1 hcut hfr hk hu hlt hn
  go_upto_region 7 with fail
  go_region_law (first
   | (refine step_append_lies _ (by rfl) (.tmp 42) (.tmp 44) 24 (by rfl) 0 39 i0 _ 5 40 Tryz.underlying24 hi hz0 hz1 hz2 rfl (by decide) (Value.slice ao n cap) n _ (by rfl) (hro.alloc _) ⟨wc.heap.size,0,none⟩ 1 1 (rA ⟨uc,ud,ua,ub,ue⟩) (by rfl) (by rfl) (dX _ (rA ⟨uc,ud,ua,ub,ue⟩) _) (by intro u hu;simp[rA] at hu;rcases hu with rfl|rfl|rfl|rfl|rfl<;>rfl) (by omega) (by unfold maxLen;omega) (by omega) (by simp) (wc.heap.size+1) (by simp) ?_
      intro g5 cap5 w5 hown5 hgrow hat hlt5
      have hk5:w5.heap[fb]?=some (.cells #[.map (some c.bk),.map (some c.bw),c.vN,.slice ao n cap] 61 (0,0)):=by { rw[hgrow.block fb (by simp;have:=HC.out.2.2.2.2.2.2;omega) (fun e=>(HC.out.2.2.2.2.1 fb e.symm) rfl)];exact dW HC.out.2.2.2.1 }
      have z3:=aA hk5 3 (u:=.slice ao n cap) rfl
      have f3:=aE hk5 3))
  all_goals
   go_wp2_with fail
   go_end0
   obtain ⟨hC,e1,hfr,-,-,hu,-⟩:=HC.out
   obtain ⟨g1,g2⟩:=hC.addStep (s:=⟨uc,ud,ua,ub,ue⟩) (w0:=(wc.alloc (.cells #[.int .i64 uc,.int .i64 ud,.int .i64 ua,.int .i64 ub,.int .i64 ue] 39)).drew) ((aC _ _).drew) (by show World.ownsRow _ _ _ _ _ (f.code.length+1) _;rw[<-HN.out];exact hown5) (by rw[e1];exact hgrow) (by rw[e1];rcases hat with h|h;exact .inl h.symm;exact .inr (by rw[h];simp[Value.ownBlock])) HL.out
   have hfin:bH P w _:=hfr.up g2
   have g3:=g1.carry (Q:=Up P w _) (w':=_) fun b hb _=>⟨Up.up hfr.size g2.size b hb,rfl⟩
   refine ⟨rfl,?_⟩
   unfold Hid
   rw[HE.out.1,<-hu]
   exact ⟨⟨⟨_,g3⟩,fL HU.out.1.2 hfin.size⟩,hfin⟩
end
end Fw
end
section
open Go.RowKit
namespace Nx
def nW (n:Nt) (V:List Int) (rows:List (List Int)):Nat->List Int
 | 0=>V
 | k+1=>after n (nW n V rows k) (rows.getD k [])
def told (n:Nt) (V:List Int) (rows:List (List Int)):Nat->List Int
 | 0=>[]
 | k+1=>(told n V rows k++[((told n V rows k).length:Int)])++tells n (nW n V rows k) (rows.getD k [])
theorem Hh (n:Nt) (V:List Int) (rows:List (List Int)) (k:Nat):(nW n V rows k).length=V.length:=by
 induction k with
 | zero=>rfl
 | succ k ih=>rw[nW,B5,ih]
theorem O9 (n:Nt) (V:List Int) (rows:List (List Int)) (k:Nat):(told n V rows k).length=k*(n.outs.length+1):=by
 induction k with
 | zero=>simp[told]
 | succ k ih=>rw[told,List.length_append,List.length_append,ih,tB,Nat.add_mul];simp;omega
end Nx
end
end Go.Proofs.YtcdbhoknhnimcaaGreatDoor
