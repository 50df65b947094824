import Derived.Test.YthieaobjdpfcoaaGreatDoorVEr0
set_option maxRecDepth 100000
set_option maxHeartbeats 16000000
namespace Go.Proofs.YthieaobjdpfcoaaGreatDoor
section
open Go.RowKit Px
namespace Ew
open Px.Em (Kd Vr eQ eR jP Rg cX)
open Nx (Nt Sp)
section
variable {P T X P1 T1 A:Nat->Prop}{w wr w2:World}{kb b E c d:Nat}{ns:List bE}{k kj k2:Kd}{t:cX}
theorem Two.trans {s:cX}{r:Nat}{n T2:Nat->Prop}(S:Two E ns P T (fun _=>False) kb b w k P1 T1 wr kj t c) (j:Two E ns P1 T1 (fun _=>False) kb b wr kj n T2 w2 k2 s r):Two E ns P T (fun _=>False) kb b w k n T2 w2 k2 s r:=by
 have u:=S.fr.size
 have l:=j.fr.size
 refine ⟨j.cm,j.im,j.dis,fun x hx=>⟨?_,id⟩,fun x hx=>⟨?_,id⟩,fun _ h=>h.elim,S.fr.trans j.fr fun x hx h=>?_,aY2 S.pl j.pl⟩
 ·rcases (j.up x hx).1 with h|h
  ·exact Up.size l x (S.up x h).1
  ·exact .inr ⟨by omega,h.2⟩
 ·rcases (j.ut x hx).1 with h|h
  ·exact Up.size l x (S.ut x h).1
  ·exact .inr ⟨by omega,h.2⟩
 ·rcases h with h|h
  ·exact (S.up x h).1.elim .inl fun h=>absurd h.1 (by omega)
  ·exact (S.ut x h).1.elim .inr fun h=>absurd h.1 (by omega)
theorem Two.ends {o:Option (Unit×Kd)}{c:Nat}(h:Two E ns P T (fun _=>False) kb b w k P1 T1 wr kj t c) (ho:o=some ((),kj)):nK E ns P T kb w k o (.returned (.tuple #[])) wr:=
 .inr ⟨kj,rfl,ho,P1,h.cm,fun x hx=>(h.up x hx).1,h.fr,h.pl⟩
def Vn (g:jP (St d) (Rg d)) (i:Nat) (r:List Nat) (t:cX) (so:Int):Em.M Unit:=
 if so=-1 then Em.dX (Em.aJ d) g r t else
 match g.states[i]? with
 | none=>Em.thrown
 | some s=>Em.bS ((i:Int)+1) >>= fun x=>Em.put g.there so x >>= fun _=>Em.iQ (decide (0<s.inside.length)) (t.getD i []) (-1) >>= fun b=>Em.fG (Em.aJ d) s so b t >>= fun t'=>Em.dX (Em.aJ d) g r t'
theorem A8 {g:jP (St d) (Rg d)}{i:Nat}{r:List Nat}:Em.dX (Em.aJ d) g (i::r) t k=(Em.J6 (t.getD i []) (-1) >>= Vn g i r t) k:=by
 rw[Em.dX]
 refine congrFun (congrArg (fun f=>Em.J6 (t.getD i []) (-1) >>= f) (funext fun h=>?_)) k
 unfold Vn
 split
 ·rfl
 ·cases g.states[i]?<;>rfl
theorem Tz {g:jP (St d) (Rg d)}{i:Nat}{r:List Nat}{so:Int}(h:so=-1):Vn g i r t so k=Em.dX (Em.aJ d) g r t k:=by unfold Vn;rw[if_pos h]
theorem aF7 {g:jP (St d) (Rg d)}{i:Nat}{r:List Nat}{so:Int}{s:eR (St d) (Rg d)}(h:¬so=-1) (j:g.states[i]?=some s):Vn g i r t so k=(Em.bS ((i:Int)+1) >>= fun x=>Em.put g.there so x >>= fun _=>Em.iQ (decide (0<s.inside.length)) (t.getD i []) (-1) >>= fun b=>Em.fG (Em.aJ d) s so b t >>= fun t'=>Em.dX (Em.aJ d) g r t') k:=by
 unfold Vn;rw[if_neg h,j]
theorem Kj {a:Int×Bool}{r:List (Int×Bool)}{so:Int}:Em.J6 (a::r) so k=(Em.uZ so a.1 >>= fun so'=>Em.J6 r so') k:=rfl
theorem xE.at (h:xE T w b t c) {i:Nat}{l:List (Int×Bool)}(r:t[i]?=some l):∃v,w.cell? ⟨b,i,none⟩=some v/\vH w v l/\(∀g,v.ownBlock=some g->T g)/\T b:=by
 obtain ⟨⟨vs,s,j⟩,_⟩:=h
 have y:i<vs.length:=by rw[j.len];exact (aO7.1 r).1
 have n:vs[i]?=some vs[i]:=aN4 y
 exact ⟨vs[i],aF j.hb i (by rw[List.getElem?_toArray];exact n),j.row i _ l n r,fun g u=>(j.pr i _ g n u).1,j.pb.1⟩
theorem zD {s:eR (St d) (Rg d)}{so back:Int}{j:cX}{n:Kd}(h:Em.fG (Em.aJ d) s so back t k=some (j,n)):j.length=t.length:=by
 rw[rM] at h
 obtain ⟨_,D,_,h⟩:=cV h
 obtain ⟨_,k2,_,h⟩:=cV h
 obtain ⟨c1,J,_,h⟩:=cV h
 obtain ⟨on,O,_,h⟩:=cV h
 have r:∀{c2:List (eQ×Int)×Int}{k:Kd},Zs c1 c2 t k=some (j,n)->j.length=t.length:=fun {c2 k} h=>by
  obtain ⟨I,Q,l,u⟩:=cV h
  rw[jX u,jX l]
 have y:∀{c2:List (eQ×Int)×Int}{k:Kd},Tv s c1 c2 t k=some (j,n)->j.length=t.length:=fun {c2 k} h=>by
  unfold Tv at h
  split at h
  ·obtain ⟨_,_,_,h⟩:=cV h
   obtain ⟨_,_,_,h⟩:=cV h
   obtain ⟨_,_,_,h⟩:=cV h
   exact r h
  ·exact r h
 have l:∀{bk:Int}{k:Kd},Vd s c1 t on bk k=some (j,n)->j.length=t.length:=fun {bk k} h=>by
  obtain ⟨_,_,_,h⟩:=cV h
  obtain ⟨_,_,_,h⟩:=cV h
  exact y h
 unfold Vm at h
 split at h
 ·exact l h
 ·obtain ⟨_,_,_,h⟩:=cV h
  exact l h
theorem Yw (hE:E<1000000) (ih:oQ A kb E ns d) {r:jP (St d) (Rg d)}{g n:Nat}(hr:Nu A w (fH A d w) r g) (hk:Od ns (eS ns d) r) (h:eK E ns P w kb k) (hI:xE T w b t c) (hd:∀x,P x->¬T x) (hR:Ro A (fun x=>P x\/T x) w) (hn:t.length=n) (ag:n=r.states.length) (hc:c≤3000000000000) :
 Calls Tryz.prog 164 #[.pointer (some ⟨kb,0,none⟩),.pointer (some ⟨g,0,none⟩),.slice (some ⟨b,0,none⟩) n n] w (nK E ns P T kb w k (Em.dX (Em.aJ d) r r.order t k)):=by
 obtain ⟨Z,hZ⟩:=gQx (Em.dX (Em.aJ d) r r.order t k)
 have HZ:Hid (Z=Em.dX (Em.aJ d) r r.order t k):=hZ
 rw[<-hZ]
 obtain ⟨gS,aS,cS,vo,hg,bo,hS,⟨ao,go,co,rfl,bc,aj⟩,bm⟩:=hr
 obtain ⟨N,hN⟩:=gQx r.order.length
 rw[<-hN] at bc
 rw[<-ag] at hg hS
 rw[<-hN] at hg
 have g1:=aF hg 1 (u:=.slice ao N co) rfl
 have HN:Hid (N=r.order.length/\n=r.states.length/\Od ns (eS ns d) r/\n≤1000000/\N≤1000000):=⟨hN,ag,hk,by rw[ag];exact hk.n,by rw[hN];exact hk.ol⟩
 have HO:Hid ((0<N->ao=some ⟨go,0,none⟩/\A go)/\∀j x:Nat,r.order[j]?=some x->w.cell? ⟨go,j,none⟩=some (.int .i64 (x:Int))):=⟨bc,aj⟩
 have HG:Hid (w.heap[g]?=some (.cells #[.slice aS n cS,.slice ao N co,.int .i64 r.first,.int .i64 r.there,.bool r.idle,.bool r.leaves] 188 (0,0))/\A g/\(0<n->aS=some ⟨gS,0,none⟩/\A gS)/\∀i s,r.states[i]?=some s->∃gd od,vS A w (fH A d w) gS (i*5) s gd od):=⟨hg,bo,hS,bm⟩
 have HC:Hid (Two E ns P T (fun _=>False) kb b w k P T w k t c/\Ro A (fun x=>P x\/T x) w/\t.length=n/\oQ A kb E ns d):=⟨Two.start h hI hd,hR,hn,ih⟩
 have ch:(N:Int)≤1000000:=by have:=hk.ol;omega
 clear h hI hd hR hn ag ih hk hg bo hS bc aj bm hN hZ
 go_enter Tryz.func164,Tryz.ntmps164
 go_wp2_with fail
 clear g1
 go_loopg [16] N (fun f i wr=>∃(j:Nat) (kj:Kd) (y:cX),f=N-j/\j≤N/\i=.int .i64 (j:Int)/\Hid (Z=Em.dX (Em.aJ d) r (r.order.drop j) y kj/\y.length=n/\∃Pj O,Two E ns P T (fun _=>False) kb b w k Pj O wr kj y (c+2000000*j)))
 case atStart=>exact ⟨0,k,t,by omega,by omega,rfl,HZ.out,HC.out.2.2.1,P,T,HC.out.1⟩
 case round=>
  obtain ⟨j,kj,y,rfl,hj,rfl,hr⟩:=hrel
  obtain ⟨J,af,Pj,O,hT⟩:=hr.out
  by_cases hlt:j<N
  ·obtain ⟨i,hi⟩:∃i:Nat,r.order[j]?=some i:=⟨r.order[j]'(by rw[<-HN.out.1];exact hlt),aN4 _⟩
   have bf:i<n:=by rw[HN.out.2.1];exact HN.out.2.2.1.o i (aP1 hi)
   have Q:=hT.keep HC.out.2.1
   have bi:=zE ao go N co j hlt (fun hp=>(HO.out.1 hp).1)
   have o0:=cL Q (HO.out.1 (by omega)).2 (HO.out.2 j i hi)
   obtain ⟨l,hl⟩:∃l,y[i]?=some l:=⟨_,aN4 (by rw[af];exact bf)⟩
   obtain ⟨v,b0,hv,av,bh⟩:=hT.im.at hl
   have ca:=Au b n n i bf
   obtain ⟨al,gl,cl,rfl,ay,ah,bj⟩:=hv.open
   obtain ⟨L,hL⟩:=gQx l.length
   rw[<-hL] at ay ah b0 av
   have ar:y.getD i []=l:=by rw[iO,hl];rfl
   have e0:Hid (Z=(Em.J6 (l.drop 0) (-1) >>= Vn r i (r.order.drop (j+1)) y) kj):=by
    rw[Hid,J,dT hi,List.drop_zero,<-ar];exact A8
   obtain ⟨cj,au⟩:=gQx (c+2000000*j)
   have ap:Hid (cj=c+2000000*j/\cj≤6000000000000):=⟨au,by have:=HN.out.2.2.2.2;omega⟩
   rw[<-au] at hT
   have S0:Hid (Two E ns P T (fun _=>False) kb b w k Pj O wr kj y cj):=hT
   have HV:Hid (vH wr (.slice al L cl) l/\(∀g,(Value.slice al L cl).ownBlock=some g->O g)/\(0<L->al=some ⟨gl,0,none⟩/\(Value.slice al L cl).ownBlock=some gl)/\(∀(m:Nat) (a:Int×Bool),l[m]?=some a->wr.cell? ⟨gl,m*2,none⟩=some (.int .i64 a.1)/\wr.cell? ⟨gl,m*2+1,none⟩=some (.bool a.2))/\L=l.length/\y.length=n/\y.getD i []=l/\i<n/\y[i]?=some l/\O b):=⟨by rw[hL];exact hv,av,by rw[hL] at ah ⊢;exact ah,bj,hL,af,ar,bf,hl,bh⟩
   have cb:(L:Int)≤9223372036854775807:=by unfold maxLen at ay;omega
   have ce:(i:Int)<1000000:=by have:=HN.out.2.2.2.1;omega
   clear hr J af hT Q hi hv av ah bj hL ay ar au hl bh
   go_wp2_with fail
   clear o0 bi b0
   go_loopg [8,25] L (fun f sv i2 wm=>∃(m:Nat) (so:Int) (km:Kd),f=L-m/\m≤L/\sv=.int .i64 so/\i2=.int .i64 (m:Int)/\Hid (Z=(Em.J6 (l.drop m) so >>= Vn r i (r.order.drop (j+1)) y) km/\∃Pm,Two E ns P T (fun _=>False) kb b w k Pm O wm km y cj/\bM Pj wr wm/\∀x,Pm x->Up Pj wr wm x))
   case atStart=>exact ⟨0,-1,kj,by omega,by omega,rfl,rfl,e0.out,Pj,S0.out,bM.refl _ _,fun x hx=>.inl hx⟩
   case round=>
    obtain ⟨m,so,km,rfl,hm,rfl,rfl,hr⟩:=hrel
    obtain ⟨J,Pm,hT,U,ad⟩:=hr.out
    by_cases hltm:m<L
    ·obtain ⟨a,ha⟩:∃a:Int×Bool,l[m]?=some a:=⟨l[m]'(by rw[<-HV.out.2.2.2.2.1];exact hltm),aN4 _⟩
     obtain ⟨c0,c1⟩:=HV.out.2.2.2.1 m a ha
     have bb:=HV.out.2.2.1 (by omega)
     have ba:¬Pj gl:=fun hp=>S0.out.dis gl hp (HV.out.2.1 gl bb.2)
     have c0:=U.cell c0 ba
     have c1:=U.cell c1 ba
     have bu:=aL2 al gl L cl m hltm (fun _=>bb.1)
     obtain ⟨Y,hY⟩:=gQx (wr.alloc (.cells #[.int .i64 a.1,.bool a.2] 240))
     obtain ⟨q,hq⟩:=gQx wr.heap.size
     have ai:Below wr.heap.size wr Y:=by rw[hY];exact aL _ _
     have bp:Y.heap[q]?=some (.cells #[.int .i64 a.1,.bool a.2] 240 (0,0)):=by rw[hY,hq];exact aX wr _
     have x0:=aF bp 0 (u:=.int .i64 a.1) rfl
     have az:=hT.below ai
     have bn:=pS so a.1 az.cm hE
     have e1:Hid (Z=(Em.uZ so a.1 >>= fun bv=>Em.J6 (l.drop (m+1)) bv >>= Vn r i (r.order.drop (j+1)) y) km):=by
      refine J.trans ((eH (by rw[dT ha];exact Kj)).trans zM)
     have HY:Hid (Two E ns P T (fun _=>False) kb b w k Pm O Y km y cj/\(∀w1,bM Pm Y w1->bM Pj _ w1/\∀x,Up Pm Y w1 x->Up Pj _ w1 x)):=⟨az,fun w1 hf=>by
      have s1:=hf.size
      have s2:=ai.size
      have s3:=U.size
      refine ⟨(U.trans (bM.of_below (P:=fun _=>False) ai) fun _ _ h=>h.elim).trans hf fun x hx h=>(ad x h).elim id fun h=>absurd h.1 (by omega),fun x hx=>?_⟩
      rcases hx with hx|hx
      ·exact Up.size (by omega) x (ad x hx)
      ·exact .inr ⟨by omega,hx.2⟩⟩
     clear hr J hT U ad ai bp az bb ba ha
     go_upto_region 7 with fail
     rw[<-hY,<-hq]
     clear hY hq bu c0 c1
     go_wp2_with (go_at_call 211;refine bn.mono ?_;rintro e w1 (⟨rfl,D,I⟩|⟨x1,k1,rfl,D,I⟩);(· exact ⟨rfl,.inl ⟨rfl,e1.out.trans (aH D.out),HY.out.1.bad I.out⟩⟩))
     have aa:Hid _:=And.intro (e1.out.trans (bind_some D.out)) (And.intro (HY.out.1.coder I.out) (HY.out.2 _ I.out.2.1))
     clear D I bn
     go_roundg (L-(m+1))
     case measure=>omega
     case rel=>exact ⟨m+1,x1,k1,rfl,by omega,rfl,by go_num,aa.out.1,_,aa.out.2.1,aa.out.2.2.1,aa.out.2.2.2⟩
    ·obtain rfl:m=L:=by omega
     have e1:Hid (Z=Vn r i (r.order.drop (j+1)) y so km):=by rw[Hid,J,HV.out.2.2.2.2.1,aR4];rfl
     have S1:Hid (Two E ns P T (fun _=>False) kb b w k Pm O wr km y cj):=hT
     by_cases hso:so=-1
     ·have t1:(so == -1)=true:=by simpa using hso
      have t2:(so != -1)=false:=by simp[hso]
      have aa:Hid (Z=Em.dX (Em.aJ d) r (r.order.drop (j+1)) y km/\y.length=n/\∃Pj O,Two E ns P T (fun _=>False) kb b w k Pj O wr km y (c+2000000*(j+1))):=⟨e1.out.trans (Tz hso),HV.out.2.2.2.2.2.1,Pm,O,S1.out.more (by have:=ap.out.1;omega)⟩
      clear hr J hT U ad hso
      go_wp2_with fail
      go_roundg (N-(j+1))
      case measure=>omega
      case rel=>exact ⟨j+1,km,y,rfl,by omega,by go_num,aa.out⟩
     ·have t1:(so == -1)=false:=by simpa using hso
      have t2:(so != -1)=true:=by simp[hso]
      obtain ⟨s,hs⟩:∃s:eR (St d) (Rg d),r.states[i]?=some s:=⟨_,aN4 (by rw[<-HN.out.2.1];exact HV.out.2.2.2.2.2.2.2.1)⟩
      obtain ⟨gd,od,ab⟩:=HG.out.2.2.2 i s hs
      have aw:=HN.out.2.2.1.st s (aP1 hs)
      rw[<-HN.out.2.1] at aw
      obtain ⟨oS,be⟩:=gQx (i*5)
      rw[<-be] at ab
      have e2:Hid (Z=(Em.bS ((i:Int)+1) >>= fun x=>Em.put r.there so x >>= fun _=>Em.iQ (decide (0<s.inside.length)) l (-1) >>= fun b=>Em.fG (Em.aJ d) s so b y >>= fun t'=>Em.dX (Em.aJ d) r (r.order.drop (j+1)) t') km):=by
       rw[Hid,<-HV.out.2.2.2.2.2.2.1];exact e1.out.trans (aF7 hso hs)
      have hdr:Below wr.heap.size wr wr.drew:=⟨rfl,rfl,rfl,aO4 _,fun _ _=>rfl⟩
      have S2:Hid (Two E ns P T (fun _=>False) kb b w k Pm O wr.drew km y cj):=hT.below hdr
      have Q:=S2.out.keep HC.out.2.1
      have ae:=lA Q HG.out.2.1 HG.out.1
      have g3:wr.cell? ⟨g,3,none⟩=some (.int .i64 r.there):=aF ae 3 rfl
      have bk:=nX (w:=wr.drew) i (by omega)
      have ak:=dP (n:=(i:Int)+1) S2.out.cm hE (Ia (by omega))
      have bg:Hid (vS A w (fH A d w) gS oS s gd od/\B9 ns n (eS ns d) s):=⟨ab,aw⟩
      have bq:=Se aS gS n cS i HV.out.2.2.2.2.2.2.2.1 (fun hp=>(HG.out.2.2.1 hp).1)
      rw[<-be] at bq
      clear hr J hT U ad hso S1 e1 hs ab aw be hdr Q ae
      go_upto_region 10 with fail
      clear t1 t2
      go_region_law (first
       | (go_simp;go_at_call 158;refine bk.mono ?_;rintro e cc ⟨rfl,bz⟩;obtain rfl:=bz.symm;clear bk)
       | (go_simp;go_at_call 207;refine ak.mono ?_;rintro e w3 (⟨rfl,D,I⟩|⟨x3,k3,rfl,D,I⟩);(· exact ⟨rfl,.inl ⟨rfl,e2.out.trans (aH D.out),S2.out.bad I.out⟩⟩);obtain ⟨P3,S3⟩:∃P3,Hid (Two E ns P T (fun _=>False) kb b w k P3 O w3 k3 y (cj)):=⟨_,S2.out.coder I.out⟩;have e3:Hid _:=e2.out.trans (bind_some D.out);clear D I ak;have am:=Ew.nU r.there so x3 S3.out.cm;have cf:=aF (lA (S3.out.keep HC.out.2.1) HG.out.2.1 HG.out.1) 3 (u:=.int .i64 r.there) rfl)
       | (go_simp;go_at_call 214;refine am.mono ?_;rintro e w4 (⟨rfl,D,I⟩|⟨_,k4,rfl,D,I⟩);(· exact ⟨rfl,.inl ⟨rfl,e3.out.trans (aH D.out),S3.out.bad I.out⟩⟩);obtain ⟨P4,S4⟩:∃P4,Hid (Two E ns P T (fun _=>False) kb b w k P4 O w4 k4 y (cj)):=⟨_,S3.out.coder I.out⟩;have e4:Hid _:=e3.out.trans (bind_some D.out);clear D I am))
      all_goals
       clear S2 e2 S3 e3 g3
       have hdr:Below w4.heap.size w4 w4.drew:=⟨rfl,rfl,rfl,aO4 _,fun _ _=>rfl⟩
       have S5:Hid (Two E ns P T (fun _=>False) kb b w k P4 O w4.drew k4 y cj):=S4.out.below hdr
       have Q:=S5.out.keep HC.out.2.1
       have ae:=lA Q HG.out.2.1 HG.out.1
       have g0:w4.cell? ⟨g,0,none⟩=some (.slice aS n cS):=aF ae 0 rfl
       obtain ⟨v4,b4,ax,an,_⟩:=S5.out.im.at HV.out.2.2.2.2.2.2.2.2.1
       have cg:w4.cell? ⟨b,i,none⟩=some v4:=b4
       have ac:=Ut hE (bg.out.1.carry Q (fH.carry d Q)) ax (fun x hx hp=>S5.out.dis x hp (an x hx)) S5.out.cm (S5.out.ro HC.out.2.1)
       obtain ⟨a4,g4,c4,rfl,_⟩:=ax.open
       have e5:=e4
       clear S4 e4 hdr Q ae b4 ax an
       go_upto_region 11 with fail
       go_region_law (first
        | (go_simp;go_at_call 216;refine ac.mono ?_;rintro e w6 (⟨rfl,D,I⟩|⟨x6,k6,rfl,D,I⟩);(· exact ⟨rfl,.inl ⟨rfl,e5.out.trans (aH D.out),S5.out.bad I.out⟩⟩);obtain ⟨P6,S6⟩:∃P6,Hid (Two E ns P T (fun _=>False) kb b w k P6 O w6 k6 y (cj)):=⟨_,S5.out.coder I.out⟩;have e6:Hid _:=e5.out.trans (bind_some D.out);clear D I ac;have Q:=S6.out.keep HC.out.2.1;have cd:=aF (lA Q HG.out.2.1 HG.out.1) 0 (u:=.slice aS n cS) rfl;have br:=aB2 (n:=n) (so:=so) (back:=x6) hE HC.out.2.2.2 (bg.out.1.carry Q (fH.carry d Q)) bg.out.2 S6.out.cm S6.out.im S6.out.dis (S6.out.roU HC.out.2.1) HV.out.2.2.2.2.2.1 ap.out.2;clear Q)
        | (go_simp;go_at_call 215;refine br.mono ?_;rintro e w7 h7;rcases h7 with ⟨rfl,D,I⟩|⟨t7,k7,rfl,D,P7,T7,h7⟩;(· exact ⟨rfl,.inl ⟨rfl,e6.out.trans (aH D.out),S6.out.fr.trans I.out fun x hx h=>by { rcases h with h|h;exact (S6.out.up x h).1.elim .inl (fun h=>absurd h.1 (by omega));exact (S6.out.ut x h).1.elim .inr (fun h=>absurd h.1 (by omega)) }⟩⟩);have bw:Hid (Z=Em.dX (Em.aJ d) r (r.order.drop (j+1)) t7 k7/\t7.length=n/\∃Pj O,Two E ns P T (fun _=>False) kb b w k Pj O w7 k7 t7 (c+2000000*(j+1))):=⟨e6.out.trans (bind_some D.out),by { rw[zD D.out];exact HV.out.2.2.2.2.2.1 },P7,T7,(S6.out.trans h7).more (by { have:=ap.out.1;omega })⟩;clear D h7 br))
       all_goals
        clear S5 e5 S6 e6
        go_wp2_with fail
        go_roundg (N-(j+1))
        case measure=>omega
        case rel=>exact ⟨j+1,k7,t7,rfl,by omega,by go_num,bw.out⟩
  ·obtain rfl:j=N:=by omega
   have HF:Hid (nK E ns P T kb w k Z (.returned (.tuple #[])) wr):=Two.ends hT (by rw[J,HN.out.1,aR4];rfl)
   clear hr J af hT
   go_wp2_with fail
   go_end0
   exact HF.out
end
section
variable {P T X P1 T1 A:Nat->Prop}{w wr w2:World}{kb b E c d:Nat}{ns:List bE}{k kj k2:Kd}{t:cX}
theorem nK.up {o o2:Option (Unit×Kd)}{e:Ending}(S:Two E ns P T X kb b w k P1 T1 wr kj t c) (u:o=o2) (h:nK E ns P1 T1 kb wr kj o2 e w2):nK E ns P T kb w k o e w2:=by
 subst u
 have D:=S.fr.size
 have j:∀x,x<w.heap.size->(P1 x\/T1 x)->(P x\/T x):=fun x hx h=>by
  rcases h with h|h
  ·exact (S.up x h).1.elim .inl fun h=>absurd h.1 (by omega)
  ·exact (S.ut x h).1.elim .inr fun h=>absurd h.1 (by omega)
 rcases h with ⟨rfl,r,l⟩|⟨y,rfl,r,l⟩
 ·exact .inl ⟨rfl,r,S.fr.trans l.out j⟩
 ·obtain ⟨s,p1,p2,p3,p4⟩:=l.out
  have n:=p3.size
  refine .inr ⟨y,rfl,r,s,p1,fun x hx=>?_,S.fr.trans p3 j,aY2 S.pl p4⟩
  rcases p2 x hx with h|h
  ·exact Up.size n x (S.up x h).1
  ·exact .inr ⟨by omega,h.2⟩
def enB (g:jP (St d) (Rg d)) (back:Int):Em.M cX:=if back=-1 then pure (List.replicate g.states.length []) else (Em.given back g.there >>= fun w=>Em.wT w g.states.length 0 (List.replicate g.states.length []))
theorem Tx {g:jP (St d) (Rg d)}{so back:Int}(h:¬so=-1):Em.enter (Em.aJ d) g so back=(enB g back >>= fun t=>Em.dU so back >>= fun f=>Em.dX (Em.aJ d) g g.order (Em.eC t g.first f false)):=by
 unfold Em.enter enB
 rw[if_neg h]
 by_cases h2:back=-1
 ·simp only[h2,if_true,pure_bind]
 ·simp only[h2,if_false,pA]
theorem Gv {was:Int}{m i:Nat}:Em.wT was (m+1) i t k=(Em.is was i >>= fun x=>Em.wT was m (i+1) (Em.eC t i x true)) k:=rfl
theorem aG5 (hE:E<1000000) (ih:oQ A kb E ns d) {P:Nat->Prop}{w:World}{k:Kd}{r:jP (St d) (Rg d)}{g:Nat}{so back:Int}(hr:Nu A w (fH A d w) r g) (hk:Od ns (eS ns d) r) (h:eK E ns P w kb k) (hR:Ro A P w) :
 Calls Tryz.prog 233 #[.pointer (some ⟨kb,0,none⟩),.pointer (some ⟨g,0,none⟩),.int .i64 so,.int .i64 back] w (fJ E ns P kb w k (Em.enter (Em.aJ d) r so back k) (fun _=>.tuple #[])):=by
 obtain ⟨Z,hZ⟩:=gQx (Em.enter (Em.aJ d) r so back k)
 rw[<-hZ]
 by_cases hso:so=-1
 ·have HF:Hid (fJ E ns P kb w k Z (fun _=>.tuple #[]) (.returned (.tuple #[])) w):=At.ends (At.start h) (a:=()) (val:=fun _=>.tuple #[]) (by rw[hZ];unfold Em.enter;rw[if_pos hso];rfl)
  have t1:(so == -1)=true:=by simpa using hso
  clear h hR hr hk hZ hso ih
  go_enter Tryz.func233,Tryz.ntmps233
  go_wp2_with fail
  go_end0
  exact HF.out
 ·have t1:(so == -1)=false:=by simpa using hso
  have hr0:=hr
  obtain ⟨gS,aS,cS,vo,hg,ad,hS,ak,az⟩:=hr
  obtain ⟨n,hn⟩:=gQx r.states.length
  rw[<-hn] at hg hS
  have g0:=aF hg 0 (u:=.slice aS n cS) rfl
  have ax:n≤1000000:=by rw[hn];exact hk.n
  have bb:∀W,(Instr.makeSlice 190 (.int .i64 (n:Int)) (.int .i64 (n:Int))).run Tryz.prog W=.ok (.slice (some ⟨W.heap.size,0,none⟩) n n) (W.alloc (.cells (List.replicate n (Value.slice none 0 0)).toArray 238)):=fun W=>Rh W n ax
  obtain ⟨w1,ab⟩:=gQx (w.alloc (.cells (Array.replicate n (Value.slice none 0 0)) 238))
  obtain ⟨b,hb⟩:=gQx w.heap.size
  have U:Below w.heap.size w w1:=by rw[ab];exact aL _ _
  have aj:xE (fun x=>x=b) w1 b (List.replicate n []) 0:=Q9 (by rw[ab,hb,List.toArray_replicate];exact aX w _)
  have am:=h.below U
  have al:∀x,P x->¬x=b:=fun x hx e=>by have:=h.2.2 x hx;omega
  have aa:bB A A w w1:=fun x hx hl=>⟨hx,U.block x hl⟩
  have av:Ro A (fun x=>P x\/x=b) w1:=fun x hx=>⟨aO5 (hR x hx).1 U.size,fun hp=>hp.elim (hR x hx).2 fun e=>by have:=(hR x hx).1;omega⟩
  have I:Hid (∀e w2,nK E ns P (fun x=>x=b) kb w1 k Z e w2->fJ E ns P kb w k Z (fun _=>.tuple #[]) e w2):=fun e w2 hG=>nK.ran U h.2.2 (fun x hx=>by rw[hx,hb];exact aO4 _) hG
  have s:Hid (Nu A w1 (fH A d w1) r g/\Od ns (eS ns d) r/\Ro A (fun x=>P x\/x=b) w1/\oQ A kb E ns d/\n=r.states.length/\w1.heap[g]?=some (.cells #[.slice aS n cS,vo,.int .i64 r.first,.int .i64 r.there,.bool r.idle,.bool r.leaves] 188 (0,0))/\A g):=⟨hr0.carry aa (fH.carry d aa),hk,av,ih,hn,lA aa ad hg,ad⟩
  have S1:Hid (Two E ns P (fun x=>x=b) (fun _=>False) kb b w1 k P (fun x=>x=b) w1 k (List.replicate n []) 0):=Two.start am aj al
  have HZ:Hid (Z=(enB r back >>= fun t=>Em.dU so back >>= fun f=>Em.dX (Em.aJ d) r r.order (Em.eC t r.first f false)) k):=by rw[Hid,hZ,Tx hso]
  obtain ⟨B,hB⟩:∃B,(back != -1)=B:=⟨_,rfl⟩
  have ba:(back == -1)=!B:=by rw[<-hB,bne,Bool.not_not]
  have HB:Hid (B=true↔back≠-1):=by rw[Hid,<-hB];simp
  have bc:(n:Int)≤1000000:=by omega
  clear h hR hr0 hk hZ hso ih hg ad hS ak az hn U aj am al aa av
  go_enter Tryz.func233,Tryz.ntmps233
  go_upto_region 2 with fail
  rw[<-ab,<-hb]
  clear ab hb g0 bb t1
  go_upto_if 20 with fail
  clear hB ba
  go_cut [] (fun wx=>∃(t:cX) (km:Kd),Hid (Z=(Em.dU so back >>= fun f=>Em.dX (Em.aJ d) r r.order (Em.eC t r.first f false)) km/\t.length=n/\∃Pm Tm,Two E ns P (fun x=>x=b) (fun _=>False) kb b w1 k Pm Tm wx km t 1000000))
  case first=>
   cases B with
   | false=>
    have he:back=-1:=Classical.byContradiction fun h=>absurd (HB.out.2 h) (by simp)
    have ae:Hid (Z=(Em.dU so back >>= fun f=>Em.dX (Em.aJ d) r r.order (Em.eC (List.replicate n []) r.first f false)) k/\(List.replicate n ([]:List (Int×Bool))).length=n/\∃Pm Tm,Two E ns P (fun x=>x=b) (fun _=>False) kb b w1 k Pm Tm w1 k (List.replicate n []) 1000000):=⟨by rw[HZ.out];unfold enB;rw[if_pos he,s.out.2.2.2.2.1];rfl,by simp,P,_,S1.out.more (by omega)⟩
    clear he
    go_wp2_with fail
    go_meet
    case rel=>exact ⟨_,_,ae.out⟩
   | true=>
    have ai:=HB.out.1 rfl
    have g3:=aF s.out.2.2.2.2.2.1 3 (u:=.int .i64 r.there) rfl
    have O:=aA2 back r.there S1.out.cm hE
    have e1:Hid (Z=(Em.given back r.there >>= fun was=>Em.wT was n 0 (List.replicate n []) >>= fun t=>Em.dU so back >>= fun f=>Em.dX (Em.aJ d) r r.order (Em.eC t r.first f false)) k):=by
     rw[Hid,HZ.out]
     unfold enB
     rw[if_neg ai,<-s.out.2.2.2.2.1]
     simp only[pA]
    clear ai
    go_upto_region 4 with (go_at_call 209;refine O.mono ?_;rintro e w2 (⟨rfl,y,D⟩|⟨x2,k2,rfl,y,D⟩);(· exact ⟨rfl,I.out _ _ (.inl ⟨rfl,e1.out.trans (aH y.out),S1.out.bad D.out⟩)⟩);obtain ⟨P2,S2⟩:∃P2,Hid (Two E ns P (fun x=>x=b) (fun _=>False) kb b w1 k P2 (fun x=>x=b) w2 k2 (List.replicate n []) (0)):=⟨_,S1.out.coder D.out⟩;have e2:Hid _:=e1.out.trans (bind_some y.out);clear y D O)
    have g0:=aF (lA (S2.out.keep s.out.2.2.1) s.out.2.2.2.2.2.2 s.out.2.2.2.2.2.1) 0 (u:=.slice aS n cS) rfl
    clear g3 S1 e1
    go_wp2_with fail
    clear g0
    go_loopg [33] n (fun f i wr=>∃(j:Nat) (kj:Kd) (J:cX),f=n-j/\j≤n/\i=.int .i64 (j:Int)/\Hid (Z=(Em.wT x2 (n-j) j J >>= fun t=>Em.dU so back >>= fun f=>Em.dX (Em.aJ d) r r.order (Em.eC t r.first f false)) kj/\J.length=n/\∃Pj Tj,Two E ns P (fun x=>x=b) (fun _=>False) kb b w1 k Pj Tj wr kj J j))
    case atStart=>exact ⟨0,k2,_,by omega,by omega,rfl,e2.out,by simp,P2,_,S2.out⟩
    case round=>
     obtain ⟨j,kj,J,rfl,hj,rfl,hr⟩:=hrel
     obtain ⟨ac,Y,Pj,Tj,hT⟩:=hr.out
     by_cases hlt:j<n
     ·have S3:Hid (Two E ns P (fun x=>x=b) (fun _=>False) kb b w1 k Pj Tj wr kj J j):=hT
      have an:=aE4 x2 j (by omega) hT.cm hE
      have e3:Hid (Z=(Em.is x2 j >>= fun x=>Em.wT x2 (n-(j+1)) (j+1) (Em.eC J j x true) >>= fun t=>Em.dU so back >>= fun f=>Em.dX (Em.aJ d) r r.order (Em.eC t r.first f false)) kj):=by
       have hy:=Gv (k:=kj) (was:=x2) (m:=n-(j+1)) (i:=j) (t:=J)
       rw[show n-(j+1)+1=n-j by omega] at hy
       exact ac.trans ((eH hy).trans zM)
      have HL:Hid (J.length=n):=Y
      clear hr ac Y hT
      go_wp2_with (first
       | (go_at_call 163;refine an.mono ?_;rintro e w4 (⟨rfl,y,D⟩|⟨x4,k4,rfl,y,D⟩);(· exact ⟨rfl,I.out _ _ (.inl ⟨rfl,e3.out.trans (aH y.out),S3.out.bad D.out⟩)⟩);obtain ⟨P4,S4⟩:∃P4,Hid (Two E ns P (fun x=>x=b) (fun _=>False) kb b w1 k P4 Tj w4 k4 J (j)):=⟨_,S3.out.coder D.out⟩;have e4:Hid _:=e3.out.trans (bind_some y.out);clear y D an;have l:=tM (i:=j) x4 true S4.out.im (by rw[HL.out];exact hlt) (by omega);rw[HL.out] at l)
       | (go_at_call 117;refine l.mono ?_;rintro e w5 ⟨rfl,h5⟩;clear l))
      have ay:Hid (Z=_/\(Em.eC J j x4 true).length=n/\∃Pj Tj,Two E ns P (fun x=>x=b) (fun _=>False) kb b w1 k Pj Tj w5 k4 (Em.eC J j x4 true) (j+1)):=⟨e4.out,by rw[nJ];exact HL.out,_,_,S4.out.into h5.out.1 h5.out.2⟩
      clear h5 S3 S4 e3 e4
      go_roundg (n-(j+1))
      case measure=>omega
      case rel=>exact ⟨j+1,k4,_,rfl,by omega,by go_num,ay.out⟩
     ·obtain rfl:j=n:=by omega
      have ae:Hid (Z=(Em.dU so back >>= fun f=>Em.dX (Em.aJ d) r r.order (Em.eC J r.first f false)) kj/\J.length=j/\∃Pm Tm,Two E ns P (fun x=>x=b) (fun _=>False) kb b w1 k Pm Tm wr kj J 1000000):=⟨by rw[ac,Nat.sub_self];rfl,Y,Pj,Tj,hT.more (by omega)⟩
      clear hr ac Y hT
      go_wp2_with fail
      go_meet
      case rel=>exact ⟨J,kj,ae.out⟩
  case rest=>
   obtain ⟨t,km,hc⟩:=hcut
   obtain ⟨au,ao,Pm,Tm,ar⟩:=hc.out
   have hdr:Below wc.heap.size wc wc.drew:=⟨rfl,rfl,rfl,aO4 _,fun _ _=>rfl⟩
   have S2:Hid (Two E ns P (fun x=>x=b) (fun _=>False) kb b w1 k Pm Tm wc.drew km t 1000000):=ar.below hdr
   have e2:Hid (Z=(Em.dU so back >>= fun f=>Em.dX (Em.aJ d) r r.order (Em.eC t r.first f false)) km):=au
   have ah:=lA (S2.out.keep s.out.2.2.1) s.out.2.2.2.2.2.2 s.out.2.2.2.2.2.1
   obtain ⟨f0,af⟩:∃f0:Nat,r.first=(f0:Int):=⟨r.first.toNat,by have:=s.out.2.1.f.1;omega⟩
   have Q:Hid (r.first=(f0:Int)/\f0<n/\t.length=n):=⟨af,by have:=s.out.2.1.f.2;have:=s.out.2.2.2.2.1;omega,ao⟩
   rw[af] at ah
   have g2:wc.cell? ⟨g,2,none⟩=some (.int .i64 (f0:Int)):=aF ah 2 rfl
   have ap:=oL so back S2.out.cm hE
   clear hc au ao ar hdr ah af S1
   go_upto_region 9 with fail
   go_region_law (first
    | (go_simp;go_at_call 204;refine ap.mono ?_;rintro e w3 (⟨rfl,y,D⟩|⟨x3,k3,rfl,y,D⟩);(· exact ⟨rfl,I.out _ _ (.inl ⟨rfl,e2.out.trans (aH y.out),S2.out.bad D.out⟩)⟩);obtain ⟨P3,S3⟩:∃P3,Hid (Two E ns P (fun x=>x=b) (fun _=>False) kb b w1 k P3 Tm w3 k3 t (1000000)):=⟨_,S2.out.coder D.out⟩;have e3:Hid _:=e2.out.trans (bind_some y.out);clear y D ap;have l:=tM (i:=f0) x3 false S3.out.im (by rw[Q.out.2.2];exact Q.out.2.1) (by omega);rw[Q.out.2.2] at l;have ag:=lA (S3.out.keep s.out.2.2.1) s.out.2.2.2.2.2.2 s.out.2.2.2.2.2.1;rw[Q.out.1] at ag;have z2:=aF ag 2 (u:=.int .i64 (f0:Int)) rfl;clear ag)
    | (go_simp;go_at_call 117;refine l.mono ?_;rintro e w5 ⟨rfl,h5⟩;clear l))
   all_goals
    obtain ⟨T5,S5⟩:∃T5,Hid (Two E ns P (fun x=>x=b) (fun _=>False) kb b w1 k P3 T5 w5 k3 (Em.eC t f0 x3 false) (1000000+1)):=⟨_,S3.out.into h5.out.1 h5.out.2⟩
    have e5:Hid (Z=Em.dX (Em.aJ d) r r.order (Em.eC t f0 x3 false) k3):=by rw[Q.out.1] at e3;exact e3
    have kp:=S5.out.keep s.out.2.2.1
    have aw:=Yw (n:=n) hE s.out.2.2.2.1 (s.out.1.carry kp (fH.carry d kp)) s.out.2.1 S5.out.cm S5.out.im S5.out.dis (S5.out.roU s.out.2.2.1) (by rw[nJ];exact Q.out.2.2) s.out.2.2.2.2.1 (by omega)
    clear kp h5 S2 S3 e2 e3 g2
    go_wp2_with (go_at_call 164;refine aw.mono ?_;rintro e w6 h6;rcases h6 with ⟨rfl,y,D⟩|⟨k6,rfl,y,D⟩;(· exact ⟨rfl,I.out _ _ (nK.up S5.out e5.out (.inl ⟨rfl,y,D⟩))⟩))
    go_end0
    exact I.out _ _ (nK.up S5.out e5.out (.inr ⟨k6,rfl,y,D⟩))
theorem aD1 (hE:E<1000000):∀d,oQ A kb E ns d
 | 0=>fun h=>h.elim
 | d+1=>fun hr hk h hR=>aG5 hE (aD1 hE d) hr hk h hR
end
end Ew
end
end Go.Proofs.YthieaobjdpfcoaaGreatDoor
