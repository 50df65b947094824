import Derived.Test.YthieaobjdpfcoaaGreatDoorUPvar
set_option maxRecDepth 100000
set_option maxHeartbeats 8000000
namespace Go.Proofs.YthieaobjdpfcoaaGreatDoor
open Go.RowKit Px
theorem bA {n:Nat}{X:List Nat}{w w':World}(hX:∀x∈X,x<n) (hf:Fr w.heap.size X w w'):bB (Ge n) (Ge n) w w':=hf.keep (fun b hb hm=>by have:=hX b hm;simp[Ge] at hb;omega)
theorem aJ1 {B e size n:Nat}{X:List Nat}{v:Value}{k:List Value}{w w':World}(h:w.ownsRow B e size v n k) (l:∀x∈X,x<B) (r:Fr w.heap.size X w w'):w'.ownsRow B e size v n k:=by
 refine ⟨h.1,?_⟩
 rcases h.2 with s|⟨g,cap,j,rfl,hb,c,rest⟩
 ·exact .inl s
 ·exact .inr ⟨g,cap,j,rfl,hb,by rw[r.block g (aB c) (fun u=>by have:=l g u;omega)];exact c,rest⟩
theorem cU (w:World) (b o:Nat) (v:Value):Fr w.heap.size [b] w (w.setCell ⟨b,o,none⟩ v):=(Fr.refl _ _ _).setCell (p:=⟨b,o,none⟩) (.inr (by simp)) v
theorem sC (w:World) (b:Nat) (cs:Array Value):Fr w.heap.size [b] w (w.setRow b cs):=(Fr.refl _ _ _).row (.inr (by simp)) cs
theorem cJ.ge {n m:Nat}{w:World}{l:List iY}{v:Value}(h:cJ (Ge m) w l v) (hn:n≤m):cJ (Ge n) w l v:=h.carry (fun _ hb _=>⟨aH5 hn hb,rfl⟩)
theorem sA (A:Nat->Prop) (w:World):cJ A w [] (.slice none 0 0):=⟨[],⟨aX2 _ _ _ _,fun g hg=>by simp[Value.ownBlock] at hg⟩,rfl⟩
def xY (L:List Lx.fQ) (kind i n:Nat) (e:E) (l:List iY) (m:Nat):Except F (Wy×Nat):=
 if tx L m=mE then
  match nm L (m+1) with
  | .error x=>.error x
  | .ok s=>
   if tx L (kH L fX (m+2))=fE then .ok (⟨kind,decide (tx L i=gB),e,n,l,s,decide (tx L (m+2)=fX)⟩,kH L fX (m+2)+1)
   else .error (3,pl L (kH L fX (m+2)))
 else .error (3,pl L m)
theorem xQ {L:List Lx.fQ}{kind i:Nat}{f:F}(h:cond L (kH L gB i)=.error f):uG L kind i=.error f:=by rw[uG,h]
theorem xP {L:List Lx.fQ}{kind i n j:Nat}{e:E}{f:F}(h:cond L (kH L gB i)=.ok (n,e,j)) (h2:fR L j=.error f):uG L kind i=.error f:=by rw[uG,h];simp only;rw[h2]
theorem dG {L:List Lx.fQ}{kind i n j m:Nat}{e:E}{l:List iY}(h:cond L (kH L gB i)=.ok (n,e,j)) (h2:fR L j=.ok (l,m)):uG L kind i=xY L kind i n e l m:=by rw[uG,h];simp only;rw[h2];simp only;rw[xY];split<;>rfl
theorem kO {L:List Lx.fQ}{kind i n m:Nat}{e:E}{l:List iY}(h:tx L m≠mE):xY L kind i n e l m=.error (3,pl L m):=if_neg h
theorem lY {L:List Lx.fQ}{kind i n m:Nat}{e:E}{l:List iY}{f:F}(h:tx L m=mE) (h2:nm L (m+1)=.error f):xY L kind i n e l m=.error f:=by rw[xY,if_pos h,h2]
theorem fK {L:List Lx.fQ}{kind i n m:Nat}{e:E}{l:List iY}{s:bE}(h:tx L m=mE) (h2:nm L (m+1)=.ok s):xY L kind i n e l m=if tx L (kH L fX (m+2))=fE then .ok (⟨kind,decide (tx L i=gB),e,n,l,s,decide (tx L (m+2)=fX)⟩,kH L fX (m+2)+1) else .error (3,pl L (kH L fX (m+2))):=by rw[xY,if_pos h,h2]
theorem Tryz.size273:(Tryz.prog.info? 273).map (·.size)=some 7:=by kernel_rfl
theorem rX {W:World}{g:Nat}{fc:Array Value}(hsz:fc.size=7) (hg:W.heap[g]?=some (.cells fc 273 (0,0))):(loadVar 273 ⟨g,0,none⟩).run Tryz.prog W=.ok (.agg fc) W:=
 run_loadVar_row (P:=Tryz.prog) W g 273 273 fc (0,0) _ hg Tryz.underlying273 rfl (by rw[hsz];exact Tryz.size273)
theorem kS (c:Array Value) (W:World) (g:Nat) (h:Array Value) (hsz:h.size=7) (l:c.getD 4 undef=.pointer (some ⟨g,0,none⟩)) (k:W.heap[g]?=some (.cells h 273 (0,0))) :
    (results Tryz.f224 c).run Tryz.prog W=.ok (.agg h) W:=by
 have j:c[4]?.getD undef=.pointer (some ⟨g,0,none⟩):=by simpa using l
 simp[results,Tryz.results224,j,asAddr,rX hsz k]
theorem lZ (a n:Int) (b c:Bool) (p:Option Addr) (ao:Option Addr) (x y:Nat) (s:ByteArray):(#[Value.int .i64 a,.bool b,.pointer p,.int .i64 n,.slice ao x y,.string s,.bool c]:Array Value).all (·.oneCell')=true:=by simp[Value.oneCell']
def sM (a:Wy) (p q:Value):Array Value:=#[.int .i64 a.kind,.bool a.now,p,.int .i64 a.times,q,sv a.to,.bool a.back]
def OkW (C:dV) (w:World) (st ins:Nat) (x:Wy×Nat) (v:Value) (w':World):Prop:=(∃p q,v=.agg (sM x.1 p q)/\jR (Ge w.heap.size) w' x.1.cond p/\cJ (Ge w.heap.size) w' x.1.sets q)/\PS C w' x.2 st ins 0
abbrev Yt:Array Value:=#[.int .i64 0,.bool false,.pointer none,.int .i64 0,.slice none 0 0,.string ⟨#[]⟩,.bool false]
abbrev oP (kind n:Int) (b:Bool) (p q:Value) (s:ByteArray) (c:Bool):Array Value:=#[.int .i64 kind,.bool b,p,.int .i64 n,q,.string s,.bool c]
theorem Oj {C:dV}{w:World}{i st ins:Nat}(h:PS C w i st ins 0) (kind:Nat) (al:tx C.L (kH C.L gB i)≠kIf):Calls Tryz.prog 224 #[.pointer (some ⟨C.rb,0,none⟩),.int .i64 kind] w (vU C (OkW C w st ins) w (uG C.L kind i)):=by
 have Z:=h.lts.1
 obtain ⟨ca,Y⟩:=h.alloc (.cells Yt 273)
 have H0:(w.alloc (.cells Yt 273)).heap[w.heap.size]?=some (.cells Yt 273 (0,0)):=heap_alloc_new _ _
 have HC:Hid (cond C.L (kH C.L gB i)=.ok (1,.nil,kH C.L gB i)):=if_neg al
 have cd:Hid _:=al
 clear al
 have T1:Hid True:=trivial
 have T2:Hid True:=trivial
 have T3:Hid True:=trivial
 have T4:Hid True:=trivial
 have T5:Hid True:=trivial
 go_enter Tryz.func224,Tryz.ntmps224
 go_wp2_with (first
  | (go_at_call 109;clear T1;refine (dS ca ⟨#[105,109,109,101,100,105,97,116,101]⟩ gB rfl (by decide)).mono ?_;rintro e w1 ⟨rfl,bp,O⟩;obtain ⟨b1,ao⟩:∃b1,Hid (b1=decide (tx C.L i=gB)):=⟨_,rfl⟩;rw[<-ao.out];have H1:=blk H0 Z O;obtain ⟨bw,bk⟩:=bp.alloc (.cells (oP kind 1 b1 (.pointer none) (.slice none 0 0) ⟨#[]⟩ false) 273);have H2:=blk H1 Z bk;have j:=bp.lts.1;have ae:w.heap.size≠w1.heap.size:=(by (have:=O.size;simp at this;omega));have K2:(w1.alloc (.cells (oP kind 1 b1 (.pointer none) (.slice none 0 0) ⟨#[]⟩ false) 273)).heap[w1.heap.size]?=some (.cells (oP kind 1 b1 (.pointer none) (.slice none 0 0) ⟨#[]⟩ false) 273 (0,0)):=heap_alloc_new _ _;have cf:=(Y.up O).up bk)
  | (go_at_call 109;clear T2;refine (cN bw ⟨#[105,102]⟩ cd.out).mono ?_;rintro e w3 ⟨rfl,ce,aj⟩;have H3:=blk H2 Z aj.wide;have K3:=blk K2 j aj.wide;have bz:=cf.up aj.wide;have cj:=aj.size))
 have br:=ce
 have HD:=H3
 have KD:=K3
 have bo:=bz
 have bm:jR (Ge (w1.heap.size+1)) w3 .nil (.pointer none):=rfl
 have c:∀x∈[C.rb],x<w1.heap.size+1:=by simp;omega
 by_cases hdo:tx C.L (kH C.L gB i)=kDo
 ·
  have Q:Hid _:=hdo
  go_wp2_with (first
   | (go_at_call 109;clear T4;refine (dM br ⟨#[100,111]⟩ hdo (by decide)).mono ?_;rintro e x1 ⟨rfl,bu,ab⟩;have M1:=blk HD Z ab;have N1:=blk KD j ab;have bn:=bo.up ab;have cb:=bm.carry (bA c ab);have cg:=ab.size)
   | (go_at_call 225;refine (mW bu).mono ?_;rintro e x2 h2;rcases h2.cases with ⟨f,aa,q,rfl,hq⟩|⟨⟨l2,m2⟩,v2,aa,rfl,⟨⟨ch,bq⟩,-,bv⟩,ag⟩;(· exact ⟨rfl,by rw[xP HC.out (by rw[fR,if_pos Q.out];exact aa.out)];exact aR.up bn ⟨q,rfl,hq⟩⟩);obtain ⟨y,cap2,rfl⟩:=aP bq.own;have M2:=blk M1 Z ag;have N2:=blk N1 j ag;obtain ⟨k4,z4⟩:=lU N2 4 _ rfl;obtain ⟨M3,N3⟩:=mS M2 N2 ae 4 (.slice y l2.length cap2);have be:=bv.put j 4 (.slice y l2.length cap2);have ai:=(bn.up ag).setCell (p:=⟨w1.heap.size,4,none⟩) (.inl ((Y.up O).size)) (.slice y l2.length cap2);have bc:=(cb.carry (bA c ag)).carry (bA (by simp) (cU x2 w1.heap.size 4 (.slice y l2.length cap2)));have ci:=ag.size;have av:=(bq.done.ge (n:=w1.heap.size+1) (aB N1)).carry (bA (by simp) (cU x2 w1.heap.size 4 (.slice y l2.length cap2))))
   | (go_at_call 101;clear T5;refine (cD be ⟨#[45,45,62]⟩ mE rfl (by decide)).mono ?_;rintro e x4 h4;rcases h4.cases with ⟨f,l,q,rfl,hq⟩|⟨_,v4,l,rfl,⟨rfl,au⟩,I⟩;(· exact ⟨rfl,by rw[dG HC.out (by rw[fR,if_pos Q.out];exact aa.out),kO (aV l).1,<-(aV l).2];exact aR.up ai ⟨q,rfl,hq⟩⟩);have M4:=blk M3 Z I;have N4:=blk N3 j I;have ad:=ai.up I;have ay:=bc.carry (bA c I);have az:=av.carry (bA c I))
   | (go_at_call 102;refine (eZ au).mono ?_;rintro e x5 h5;rcases h5.cases with ⟨f,k,q,rfl,hq⟩|⟨J,cc,k,rfl,⟨rfl,ar⟩,u⟩;(· exact ⟨rfl,by rw[dG HC.out (by rw[fR,if_pos Q.out];exact aa.out),lY (bJ l) k.out];exact aR.up ad ⟨q,rfl,hq⟩⟩);rw[sv];have M5:=blk M4 Z u;have N5:=blk N4 j u;obtain ⟨k5,z5⟩:=lU N5 5 _ rfl;obtain ⟨M6,N6⟩:=mS M5 N5 ae 5 (.string ⟨J.toArray⟩);have bf:=ar.put j 5 (.string ⟨J.toArray⟩);have ba:=(ad.up u).setCell (p:=⟨w1.heap.size,5,none⟩) (.inl ((Y.up O).size)) (.string ⟨J.toArray⟩);have ax:=(ay.carry (bA c u)).carry (bA (by simp) (cU x5 w1.heap.size 5 (.string ⟨J.toArray⟩)));have am:=(az.carry (bA c u)).carry (bA (by simp) (cU x5 w1.heap.size 5 (.string ⟨J.toArray⟩))))
   | (go_at_call 109;refine (dS bf ⟨#[104,105,115,116,111,114,121]⟩ fX rfl (by decide)).mono ?_;rintro e x7 ⟨rfl,bi,s⟩;obtain ⟨r,ah⟩:∃r,Hid (r=decide (tx C.L (m2+2)=fX)):=⟨_,rfl⟩;rw[<-ah.out];have M7:=blk M6 Z s;have N7:=blk N6 j s;obtain ⟨k6,z6⟩:=lU N7 6 _ rfl;obtain ⟨M8,N8⟩:=mS M7 N7 ae 6 (.bool r);have aw:=bi.put j 6 (.bool r);have af:=(ba.up s).setCell (p:=⟨w1.heap.size,6,none⟩) (.inl ((Y.up O).size)) (.bool r);have an:=(ax.carry (bA c s)).carry (bA (by simp) (cU x7 w1.heap.size 6 (.bool r)));have bj:=(am.carry (bA c s)).carry (bA (by simp) (cU x7 w1.heap.size 6 (.bool r))))
   | (go_at_call 101;refine (cD aw ⟨#[59]⟩ fE rfl (by decide)).mono ?_;rintro e x9 h9;rcases h9.cases with ⟨f,U,q,rfl,hq⟩|⟨_,v9,U,rfl,⟨rfl,ak⟩,D⟩;(· exact ⟨rfl,by rw[dG HC.out (by rw[fR,if_pos Q.out];exact aa.out),fK (bJ l) k.out,if_neg (aV U).1,<-(aV U).2];exact aR.up af ⟨q,rfl,hq⟩⟩);have M9:=blk M8 Z D;have N9:=blk N8 j D;have bb:=af.up D;have ap:=an.carry (bA c D);have bh:=bj.carry (bA c D))
   | (refine bT rfl 273 (.tmp 5) rfl ⟨w1.heap.size,0,none⟩ rfl (.agg (oP kind 1 b1 (.pointer none) (.slice y l2.length cap2) ⟨J.toArray⟩ r)) (rX rfl N9) ?_)
   | (refine wpList_store_row rfl 273 (.tmp 4) (.tmp 35) rfl w.heap.size (oP kind 1 b1 (.pointer none) (.slice y l2.length cap2) ⟨J.toArray⟩ r) rfl rfl 273 _ M9 Tryz.size273 rfl (lZ _ _ _ _ _ _ _ _ _) ?_))
  refine aX5 (kS _ _ w.heap.size (oP kind 1 b1 (.pointer none) (.slice y l2.length cap2) ⟨J.toArray⟩ r) rfl rfl (setRow_heap _ _ _ _ _ _ M9)) rfl ?_
  rw[dG HC.out (by rw[fR,if_pos Q.out];exact aa.out),fK (bJ l) k.out,if_pos (bJ U)]
  have hsz:=(Y.up O).size
  have kR:bB (Ge (w1.heap.size+1)) (Ge (w1.heap.size+1)) x9 (x9.setRow w.heap.size (oP kind 1 b1 (.pointer none) (.slice y l2.length cap2) ⟨J.toArray⟩ r)):=bA (by simp;omega) (sC x9 w.heap.size (oP kind 1 b1 (.pointer none) (.slice y l2.length cap2) ⟨J.toArray⟩ r))
  exact ⟨_,rfl,⟨⟨(.pointer none),(.slice y l2.length cap2),by rw[sM,<-ao.out,<-ah.out];rfl,(ap.carry kR).ge (by omega),(bh.carry kR).ge (by omega)⟩,ak.row Z _⟩,bb.row (.inl (aF4 _)) _⟩
 ·
  have Q:Hid _:=hdo
  go_wp2_with (first
   | (go_at_call 109;clear T4;refine (cN br ⟨#[100,111]⟩ hdo).mono ?_;rintro e x3 ⟨rfl,be,ac⟩;have M3:=blk HD Z ac.wide;have N3:=blk KD j ac.wide;have ai:=bo.up ac.wide;have bc:=bm.carry (bA (X:=[]) (by simp) ac);have av:cJ (Ge (w1.heap.size+1)) x3 [] (.slice none 0 0):=sA _ _;have cg:=ac.size)
   | (go_at_call 101;clear T5;refine (cD be ⟨#[45,45,62]⟩ mE rfl (by decide)).mono ?_;rintro e x4 h4;rcases h4.cases with ⟨f,l,q,rfl,hq⟩|⟨_,v4,l,rfl,⟨rfl,au⟩,I⟩;(· exact ⟨rfl,by rw[dG HC.out (by rw[fR,if_neg Q.out]),kO (aV l).1,<-(aV l).2];exact aR.up ai ⟨q,rfl,hq⟩⟩);have M4:=blk M3 Z I;have N4:=blk N3 j I;have ad:=ai.up I;have ay:=bc.carry (bA c I);have az:=av.carry (bA c I))
   | (go_at_call 102;refine (eZ au).mono ?_;rintro e x5 h5;rcases h5.cases with ⟨f,k,q,rfl,hq⟩|⟨J,cc,k,rfl,⟨rfl,ar⟩,u⟩;(· exact ⟨rfl,by rw[dG HC.out (by rw[fR,if_neg Q.out]),lY (bJ l) k.out];exact aR.up ad ⟨q,rfl,hq⟩⟩);rw[sv];have M5:=blk M4 Z u;have N5:=blk N4 j u;obtain ⟨k5,z5⟩:=lU N5 5 _ rfl;obtain ⟨M6,N6⟩:=mS M5 N5 ae 5 (.string ⟨J.toArray⟩);have bf:=ar.put j 5 (.string ⟨J.toArray⟩);have ba:=(ad.up u).setCell (p:=⟨w1.heap.size,5,none⟩) (.inl ((Y.up O).size)) (.string ⟨J.toArray⟩);have ax:=(ay.carry (bA c u)).carry (bA (by simp) (cU x5 w1.heap.size 5 (.string ⟨J.toArray⟩)));have am:=(az.carry (bA c u)).carry (bA (by simp) (cU x5 w1.heap.size 5 (.string ⟨J.toArray⟩))))
   | (go_at_call 109;refine (dS bf ⟨#[104,105,115,116,111,114,121]⟩ fX rfl (by decide)).mono ?_;rintro e x7 ⟨rfl,bi,s⟩;obtain ⟨r,ah⟩:∃r,Hid (r=decide (tx C.L ((kH C.L gB i)+2)=fX)):=⟨_,rfl⟩;rw[<-ah.out];have M7:=blk M6 Z s;have N7:=blk N6 j s;obtain ⟨k6,z6⟩:=lU N7 6 _ rfl;obtain ⟨M8,N8⟩:=mS M7 N7 ae 6 (.bool r);have aw:=bi.put j 6 (.bool r);have af:=(ba.up s).setCell (p:=⟨w1.heap.size,6,none⟩) (.inl ((Y.up O).size)) (.bool r);have an:=(ax.carry (bA c s)).carry (bA (by simp) (cU x7 w1.heap.size 6 (.bool r)));have bj:=(am.carry (bA c s)).carry (bA (by simp) (cU x7 w1.heap.size 6 (.bool r))))
   | (go_at_call 101;refine (cD aw ⟨#[59]⟩ fE rfl (by decide)).mono ?_;rintro e x9 h9;rcases h9.cases with ⟨f,U,q,rfl,hq⟩|⟨_,v9,U,rfl,⟨rfl,ak⟩,D⟩;(· exact ⟨rfl,by rw[dG HC.out (by rw[fR,if_neg Q.out]),fK (bJ l) k.out,if_neg (aV U).1,<-(aV U).2];exact aR.up af ⟨q,rfl,hq⟩⟩);have M9:=blk M8 Z D;have N9:=blk N8 j D;have bb:=af.up D;have ap:=an.carry (bA c D);have bh:=bj.carry (bA c D))
   | (refine bT rfl 273 (.tmp 5) rfl ⟨w1.heap.size,0,none⟩ rfl (.agg (oP kind 1 b1 (.pointer none) (.slice none 0 0) ⟨J.toArray⟩ r)) (rX rfl N9) ?_)
   | (refine wpList_store_row rfl 273 (.tmp 4) (.tmp 35) rfl w.heap.size (oP kind 1 b1 (.pointer none) (.slice none 0 0) ⟨J.toArray⟩ r) rfl rfl 273 _ M9 Tryz.size273 rfl (lZ _ _ _ _ _ _ _ _ _) ?_))
  refine aX5 (kS _ _ w.heap.size (oP kind 1 b1 (.pointer none) (.slice none 0 0) ⟨J.toArray⟩ r) rfl rfl (setRow_heap _ _ _ _ _ _ M9)) rfl ?_
  rw[dG HC.out (by rw[fR,if_neg Q.out]),fK (bJ l) k.out,if_pos (bJ U)]
  have hsz:=(Y.up O).size
  have kR:bB (Ge (w1.heap.size+1)) (Ge (w1.heap.size+1)) x9 (x9.setRow w.heap.size (oP kind 1 b1 (.pointer none) (.slice none 0 0) ⟨J.toArray⟩ r)):=bA (by simp;omega) (sC x9 w.heap.size (oP kind 1 b1 (.pointer none) (.slice none 0 0) ⟨J.toArray⟩ r))
  exact ⟨_,rfl,⟨⟨(.pointer none),(.slice none 0 0),by rw[sM,<-ao.out,<-ah.out];rfl,(ap.carry kR).ge (by omega),(bh.carry kR).ge (by omega)⟩,ak.row Z _⟩,bb.row (.inl (aF4 _)) _⟩
theorem aA1 {C:dV}{w:World}{i st ins:Nat}(h:PS C w i st ins 0) (kind:Nat) (aj:tx C.L (kH C.L gB i)=kIf) (ak:tx C.L (kH C.L gB i+1)≠Q5):Calls Tryz.prog 224 #[.pointer (some ⟨C.rb,0,none⟩),.int .i64 kind] w (vU C (OkW C w st ins) w (uG C.L kind i)):=by
 have hC:=h.lts.1
 obtain ⟨ck,Z⟩:=h.alloc (.cells Yt 273)
 have H0:(w.alloc (.cells Yt 273)).heap[w.heap.size]?=some (.cells Yt 273 (0,0)):=heap_alloc_new _ _
 have cf:∀f,Hid (eP C.L (kH C.L gB i+1)=.error f)->Hid (cond C.L (kH C.L gB i)=.error f):=fun f hr=>by rw[Hid,Px.cond,if_pos aj,if_neg ak,hr.out]
 have cr:∀e j,Hid (eP C.L (kH C.L gB i+1)=.ok (e,j))->Hid (cond C.L (kH C.L gB i)=.ok (1,e,j)):=fun e j hr=>by rw[Hid,Px.cond,if_pos aj,if_neg ak,hr.out]
 have co:Hid _:=aj
 have cj:Hid _:=ak
 clear aj ak
 have T1:Hid True:=trivial
 have T2:Hid True:=trivial
 have T3:Hid True:=trivial
 have T4:Hid True:=trivial
 have T5:Hid True:=trivial
 go_enter Tryz.func224,Tryz.ntmps224
 go_wp2_with (first
  | (go_at_call 109;clear T1;refine (dS ck ⟨#[105,109,109,101,100,105,97,116,101]⟩ gB rfl (by decide)).mono ?_;rintro e w1 ⟨rfl,bw,y⟩;obtain ⟨b1,au⟩:∃b1,Hid (b1=decide (tx C.L i=gB)):=⟨_,rfl⟩;rw[<-au.out];have H1:=blk H0 hC y;obtain ⟨cg,bp⟩:=bw.alloc (.cells (oP kind 1 b1 (.pointer none) (.slice none 0 0) ⟨#[]⟩ false) 273);have H2:=blk H1 hC bp;have c:=bw.lts.1;have ab:w.heap.size≠w1.heap.size:=(by (have:=y.size;simp at this;omega));have K2:(w1.alloc (.cells (oP kind 1 b1 (.pointer none) (.slice none 0 0) ⟨#[]⟩ false) 273)).heap[w1.heap.size]?=some (.cells (oP kind 1 b1 (.pointer none) (.slice none 0 0) ⟨#[]⟩ false) 273 (0,0)):=heap_alloc_new _ _;have ct:=(Z.up y).up bp)
  | (go_at_call 109;clear T2;refine (dM cg ⟨#[105,102]⟩ co.out (by decide)).mono ?_;rintro e w3 ⟨rfl,cq,am⟩;have H3:=blk H2 hC am;have K3:=blk K2 c am;have ch:=ct.up am;have cx:=am.size)
  | (go_at_call 109;clear T3;refine (cN cq ⟨#[99,111,117,110,116]⟩ cj.out).mono ?_;rintro e w4 ⟨rfl,cp,al⟩;have H4:=blk H3 hC al.wide;have K4:=blk K3 c al.wide;have bv:=ch.up al.wide;have cy:=al.size)
  | (go_at_call 226;refine (lN cp).mono ?_;rintro e w7 h7;rcases h7.cases with ⟨f,av,q,rfl,hq⟩|⟨⟨e7,j7⟩,v7,av,rfl,⟨bz,cc⟩,an⟩;(· exact ⟨rfl,by rw[xQ (cf _ av).out];exact aR.up bv ⟨q,rfl,hq⟩⟩);obtain ⟨p7,rfl⟩:=bz.ptr;have H7:=blk H4 hC an;have K7:=blk K4 c an;obtain ⟨k2,z2⟩:=lU K7 2 _ rfl;obtain ⟨HD,KD⟩:=mS H7 K7 ab 2 (.pointer p7);have cb:=cc.put c 2 (.pointer p7);have bu:=(bv.up an).setCell (p:=⟨w1.heap.size,2,none⟩) (.inl ((Z.up y).size)) (.pointer p7);have ci:=bz.ge (n:=w1.heap.size+1) (aB K4);have bq:=ci.carry (bA (by simp) (cU w7 w1.heap.size 2 (.pointer p7)))))
 have HC:=cr _ _ av
 have k:∀x∈[C.rb],x<w1.heap.size+1:=by simp;omega
 by_cases hdo:tx C.L j7=kDo
 ·
  have U:Hid _:=hdo
  go_wp2_with (first
   | (go_at_call 109;clear T4;refine (dM cb ⟨#[100,111]⟩ hdo (by decide)).mono ?_;rintro e x1 ⟨rfl,cd,ac⟩;have M1:=blk HD hC ac;have N1:=blk KD c ac;have br:=bu.up ac;have cm:=bq.carry (bA k ac);have cu:=ac.size)
   | (go_at_call 225;refine (mW cd).mono ?_;rintro e x2 h2;rcases h2.cases with ⟨f,aa,q,rfl,hq⟩|⟨⟨l2,m2⟩,v2,aa,rfl,⟨⟨cv,ca⟩,-,ce⟩,ag⟩;(· exact ⟨rfl,by rw[xP HC.out (by rw[fR,if_pos U.out];exact aa.out)];exact aR.up br ⟨q,rfl,hq⟩⟩);obtain ⟨I,cap2,rfl⟩:=aP ca.own;have M2:=blk M1 hC ag;have N2:=blk N1 c ag;obtain ⟨k4,z4⟩:=lU N2 4 _ rfl;obtain ⟨M3,N3⟩:=mS M2 N2 ab 4 (.slice I l2.length cap2);have bj:=ce.put c 4 (.slice I l2.length cap2);have ai:=(br.up ag).setCell (p:=⟨w1.heap.size,4,none⟩) (.inl ((Z.up y).size)) (.slice I l2.length cap2);have bi:=(cm.carry (bA k ag)).carry (bA (by simp) (cU x2 w1.heap.size 4 (.slice I l2.length cap2)));have cw:=ag.size;have az:=(ca.done.ge (n:=w1.heap.size+1) (aB N1)).carry (bA (by simp) (cU x2 w1.heap.size 4 (.slice I l2.length cap2))))
   | (go_at_call 101;clear T5;refine (cD bj ⟨#[45,45,62]⟩ mE rfl (by decide)).mono ?_;rintro e x4 h4;rcases h4.cases with ⟨f,r,q,rfl,hq⟩|⟨_,v4,r,rfl,⟨rfl,ay⟩,O⟩;(· exact ⟨rfl,by rw[dG HC.out (by rw[fR,if_pos U.out];exact aa.out),kO (aV r).1,<-(aV r).2];exact aR.up ai ⟨q,rfl,hq⟩⟩);have M4:=blk M3 hC O;have N4:=blk N3 c O;have ae:=ai.up O;have bc:=bi.carry (bA k O);have be:=az.carry (bA k O))
   | (go_at_call 102;refine (eZ ay).mono ?_;rintro e x5 h5;rcases h5.cases with ⟨f,l,q,rfl,hq⟩|⟨Q,cn,l,rfl,⟨rfl,ax⟩,D⟩;(· exact ⟨rfl,by rw[dG HC.out (by rw[fR,if_pos U.out];exact aa.out),lY (bJ r) l.out];exact aR.up ae ⟨q,rfl,hq⟩⟩);rw[sv];have M5:=blk M4 hC D;have N5:=blk N4 c D;obtain ⟨k5,z5⟩:=lU N5 5 _ rfl;obtain ⟨M6,N6⟩:=mS M5 N5 ab 5 (.string ⟨Q.toArray⟩);have bk:=ax.put c 5 (.string ⟨Q.toArray⟩);have bf:=(ae.up D).setCell (p:=⟨w1.heap.size,5,none⟩) (.inl ((Z.up y).size)) (.string ⟨Q.toArray⟩);have bb:=(bc.carry (bA k D)).carry (bA (by simp) (cU x5 w1.heap.size 5 (.string ⟨Q.toArray⟩)));have ap:=(be.carry (bA k D)).carry (bA (by simp) (cU x5 w1.heap.size 5 (.string ⟨Q.toArray⟩))))
   | (go_at_call 109;refine (dS bk ⟨#[104,105,115,116,111,114,121]⟩ fX rfl (by decide)).mono ?_;rintro e x7 ⟨rfl,bn,u⟩;obtain ⟨s,ah⟩:∃s,Hid (s=decide (tx C.L (m2+2)=fX)):=⟨_,rfl⟩;rw[<-ah.out];have M7:=blk M6 hC u;have N7:=blk N6 c u;obtain ⟨k6,z6⟩:=lU N7 6 _ rfl;obtain ⟨M8,N8⟩:=mS M7 N7 ab 6 (.bool s);have ba:=bn.put c 6 (.bool s);have af:=(bf.up u).setCell (p:=⟨w1.heap.size,6,none⟩) (.inl ((Z.up y).size)) (.bool s);have ar:=(bb.carry (bA k u)).carry (bA (by simp) (cU x7 w1.heap.size 6 (.bool s)));have bo:=(ap.carry (bA k u)).carry (bA (by simp) (cU x7 w1.heap.size 6 (.bool s))))
   | (go_at_call 101;refine (cD ba ⟨#[59]⟩ fE rfl (by decide)).mono ?_;rintro e x9 h9;rcases h9.cases with ⟨f,Y,q,rfl,hq⟩|⟨_,v9,Y,rfl,⟨rfl,ao⟩,J⟩;(· exact ⟨rfl,by rw[dG HC.out (by rw[fR,if_pos U.out];exact aa.out),fK (bJ r) l.out,if_neg (aV Y).1,<-(aV Y).2];exact aR.up af ⟨q,rfl,hq⟩⟩);have M9:=blk M8 hC J;have N9:=blk N8 c J;have bh:=af.up J;have aw:=ar.carry (bA k J);have bm:=bo.carry (bA k J))
   | (refine bT rfl 273 (.tmp 5) rfl ⟨w1.heap.size,0,none⟩ rfl (.agg (oP kind 1 b1 (.pointer p7) (.slice I l2.length cap2) ⟨Q.toArray⟩ s)) (rX rfl N9) ?_)
   | (refine wpList_store_row rfl 273 (.tmp 4) (.tmp 35) rfl w.heap.size (oP kind 1 b1 (.pointer p7) (.slice I l2.length cap2) ⟨Q.toArray⟩ s) rfl rfl 273 _ M9 Tryz.size273 rfl (lZ _ _ _ _ _ _ _ _ _) ?_))
  refine aX5 (kS _ _ w.heap.size (oP kind 1 b1 (.pointer p7) (.slice I l2.length cap2) ⟨Q.toArray⟩ s) rfl rfl (setRow_heap _ _ _ _ _ _ M9)) rfl ?_
  rw[dG HC.out (by rw[fR,if_pos U.out];exact aa.out),fK (bJ r) l.out,if_pos (bJ Y)]
  have hsz:=(Z.up y).size
  have kR:bB (Ge (w1.heap.size+1)) (Ge (w1.heap.size+1)) x9 (x9.setRow w.heap.size (oP kind 1 b1 (.pointer p7) (.slice I l2.length cap2) ⟨Q.toArray⟩ s)):=bA (by simp;omega) (sC x9 w.heap.size (oP kind 1 b1 (.pointer p7) (.slice I l2.length cap2) ⟨Q.toArray⟩ s))
  exact ⟨_,rfl,⟨⟨(.pointer p7),(.slice I l2.length cap2),by rw[sM,<-au.out,<-ah.out];rfl,(aw.carry kR).ge (by omega),(bm.carry kR).ge (by omega)⟩,ao.row hC _⟩,bh.row (.inl (aF4 _)) _⟩
 ·
  have U:Hid _:=hdo
  go_wp2_with (first
   | (go_at_call 109;clear T4;refine (cN cb ⟨#[100,111]⟩ hdo).mono ?_;rintro e x3 ⟨rfl,bj,ad⟩;have M3:=blk HD hC ad.wide;have N3:=blk KD c ad.wide;have ai:=bu.up ad.wide;have bi:=bq.carry (bA (X:=[]) (by simp) ad);have az:cJ (Ge (w1.heap.size+1)) x3 [] (.slice none 0 0):=sA _ _;have cu:=ad.size)
   | (go_at_call 101;clear T5;refine (cD bj ⟨#[45,45,62]⟩ mE rfl (by decide)).mono ?_;rintro e x4 h4;rcases h4.cases with ⟨f,r,q,rfl,hq⟩|⟨_,v4,r,rfl,⟨rfl,ay⟩,O⟩;(· exact ⟨rfl,by rw[dG HC.out (by rw[fR,if_neg U.out]),kO (aV r).1,<-(aV r).2];exact aR.up ai ⟨q,rfl,hq⟩⟩);have M4:=blk M3 hC O;have N4:=blk N3 c O;have ae:=ai.up O;have bc:=bi.carry (bA k O);have be:=az.carry (bA k O))
   | (go_at_call 102;refine (eZ ay).mono ?_;rintro e x5 h5;rcases h5.cases with ⟨f,l,q,rfl,hq⟩|⟨Q,cn,l,rfl,⟨rfl,ax⟩,D⟩;(· exact ⟨rfl,by rw[dG HC.out (by rw[fR,if_neg U.out]),lY (bJ r) l.out];exact aR.up ae ⟨q,rfl,hq⟩⟩);rw[sv];have M5:=blk M4 hC D;have N5:=blk N4 c D;obtain ⟨k5,z5⟩:=lU N5 5 _ rfl;obtain ⟨M6,N6⟩:=mS M5 N5 ab 5 (.string ⟨Q.toArray⟩);have bk:=ax.put c 5 (.string ⟨Q.toArray⟩);have bf:=(ae.up D).setCell (p:=⟨w1.heap.size,5,none⟩) (.inl ((Z.up y).size)) (.string ⟨Q.toArray⟩);have bb:=(bc.carry (bA k D)).carry (bA (by simp) (cU x5 w1.heap.size 5 (.string ⟨Q.toArray⟩)));have ap:=(be.carry (bA k D)).carry (bA (by simp) (cU x5 w1.heap.size 5 (.string ⟨Q.toArray⟩))))
   | (go_at_call 109;refine (dS bk ⟨#[104,105,115,116,111,114,121]⟩ fX rfl (by decide)).mono ?_;rintro e x7 ⟨rfl,bn,u⟩;obtain ⟨s,ah⟩:∃s,Hid (s=decide (tx C.L (j7+2)=fX)):=⟨_,rfl⟩;rw[<-ah.out];have M7:=blk M6 hC u;have N7:=blk N6 c u;obtain ⟨k6,z6⟩:=lU N7 6 _ rfl;obtain ⟨M8,N8⟩:=mS M7 N7 ab 6 (.bool s);have ba:=bn.put c 6 (.bool s);have af:=(bf.up u).setCell (p:=⟨w1.heap.size,6,none⟩) (.inl ((Z.up y).size)) (.bool s);have ar:=(bb.carry (bA k u)).carry (bA (by simp) (cU x7 w1.heap.size 6 (.bool s)));have bo:=(ap.carry (bA k u)).carry (bA (by simp) (cU x7 w1.heap.size 6 (.bool s))))
   | (go_at_call 101;refine (cD ba ⟨#[59]⟩ fE rfl (by decide)).mono ?_;rintro e x9 h9;rcases h9.cases with ⟨f,Y,q,rfl,hq⟩|⟨_,v9,Y,rfl,⟨rfl,ao⟩,J⟩;(· exact ⟨rfl,by rw[dG HC.out (by rw[fR,if_neg U.out]),fK (bJ r) l.out,if_neg (aV Y).1,<-(aV Y).2];exact aR.up af ⟨q,rfl,hq⟩⟩);have M9:=blk M8 hC J;have N9:=blk N8 c J;have bh:=af.up J;have aw:=ar.carry (bA k J);have bm:=bo.carry (bA k J))
   | (refine bT rfl 273 (.tmp 5) rfl ⟨w1.heap.size,0,none⟩ rfl (.agg (oP kind 1 b1 (.pointer p7) (.slice none 0 0) ⟨Q.toArray⟩ s)) (rX rfl N9) ?_)
   | (refine wpList_store_row rfl 273 (.tmp 4) (.tmp 35) rfl w.heap.size (oP kind 1 b1 (.pointer p7) (.slice none 0 0) ⟨Q.toArray⟩ s) rfl rfl 273 _ M9 Tryz.size273 rfl (lZ _ _ _ _ _ _ _ _ _) ?_))
  refine aX5 (kS _ _ w.heap.size (oP kind 1 b1 (.pointer p7) (.slice none 0 0) ⟨Q.toArray⟩ s) rfl rfl (setRow_heap _ _ _ _ _ _ M9)) rfl ?_
  rw[dG HC.out (by rw[fR,if_neg U.out]),fK (bJ r) l.out,if_pos (bJ Y)]
  have hsz:=(Z.up y).size
  have kR:bB (Ge (w1.heap.size+1)) (Ge (w1.heap.size+1)) x9 (x9.setRow w.heap.size (oP kind 1 b1 (.pointer p7) (.slice none 0 0) ⟨Q.toArray⟩ s)):=bA (by simp;omega) (sC x9 w.heap.size (oP kind 1 b1 (.pointer p7) (.slice none 0 0) ⟨Q.toArray⟩ s))
  exact ⟨_,rfl,⟨⟨(.pointer p7),(.slice none 0 0),by rw[sM,<-au.out,<-ah.out];rfl,(aw.carry kR).ge (by omega),(bm.carry kR).ge (by omega)⟩,ao.row hC _⟩,bh.row (.inl (aF4 _)) _⟩
theorem Jl {C:dV}{w:World}{i st ins:Nat}(h:PS C w i st ins 0) (kind:Nat) (ac:tx C.L (kH C.L gB i)=kIf) (ag:tx C.L (kH C.L gB i+1)=Q5):Calls Tryz.prog 224 #[.pointer (some ⟨C.rb,0,none⟩),.int .i64 kind] w (vU C (OkW C w st ins) w (uG C.L kind i)):=by
 have hC:=h.lts.1
 obtain ⟨cr,Y⟩:=h.alloc (.cells Yt 273)
 have H0:(w.alloc (.cells Yt 273)).heap[w.heap.size]?=some (.cells Yt 273 (0,0)):=heap_alloc_new _ _
 have ck:∀f,Hid (times C.L (kH C.L gB i+2)=.error f)->Hid (cond C.L (kH C.L gB i)=.error f):=fun f hr=>by rw[Hid,Px.cond,if_pos ac,if_pos ag,hr.out]
 have ci:∀n f,Hid (times C.L (kH C.L gB i+2)=.ok n)->Hid (eP C.L (kH C.L gB i+3)=.error f)->Hid (cond C.L (kH C.L gB i)=.error f):=fun n f hr Q=>by rw[Hid,Px.cond,if_pos ac,if_pos ag,hr.out];simp only;rw[Q.out]
 have cy:∀n e j,Hid (times C.L (kH C.L gB i+2)=.ok n)->Hid (eP C.L (kH C.L gB i+3)=.ok (e,j))->Hid (cond C.L (kH C.L gB i)=.ok (n,e,j)):=fun n e j hr Q=>by rw[Hid,Px.cond,if_pos ac,if_pos ag,hr.out];simp only;rw[Q.out]
 have cv:Hid _:=ac
 have cq:Hid _:=ag
 clear ac ag
 have T1:Hid True:=trivial
 have T2:Hid True:=trivial
 have T3:Hid True:=trivial
 have T4:Hid True:=trivial
 have T5:Hid True:=trivial
 go_enter Tryz.func224,Tryz.ntmps224
 go_wp2_with (first
  | (go_at_call 109;clear T1;refine (dS cr ⟨#[105,109,109,101,100,105,97,116,101]⟩ gB rfl (by decide)).mono ?_;rintro e w1 ⟨rfl,ca,u⟩;obtain ⟨b1,aw⟩:∃b1,Hid (b1=decide (tx C.L i=gB)):=⟨_,rfl⟩;rw[<-aw.out];have H1:=blk H0 hC u;obtain ⟨cm,br⟩:=ca.alloc (.cells (oP kind 1 b1 (.pointer none) (.slice none 0 0) ⟨#[]⟩ false) 273);have H2:=blk H1 hC br;have c:=ca.lts.1;have ab:w.heap.size≠w1.heap.size:=(by (have:=u.size;simp at this;omega));have K2:(w1.alloc (.cells (oP kind 1 b1 (.pointer none) (.slice none 0 0) ⟨#[]⟩ false) 273)).heap[w1.heap.size]?=some (.cells (oP kind 1 b1 (.pointer none) (.slice none 0 0) ⟨#[]⟩ false) 273 (0,0)):=heap_alloc_new _ _;have cz:=(Y.up u).up br)
  | (go_at_call 109;clear T2;refine (dM cm ⟨#[105,102]⟩ cv.out (by decide)).mono ?_;rintro e w3 ⟨rfl,cx,ao⟩;have H3:=blk H2 hC ao;have K3:=blk K2 c ao;have cn:=cz.up ao;have de:=ao.size)
  | (go_at_call 109;clear T3;refine (dM cx ⟨#[99,111,117,110,116]⟩ cq.out (by decide)).mono ?_;rintro e w4 ⟨rfl,cw,an⟩;have H4:=blk H3 hC an;have K4:=blk K3 c an;have bz:=cn.up an;have df:=an.size)
  | (go_at_call 241;refine (Jw cw).mono ?_;rintro e w5 h5;rcases h5.cases with ⟨f,al,q,rfl,hq⟩|⟨n5,v5,al,rfl,⟨rfl,cp⟩,am⟩;(· exact ⟨rfl,by rw[xQ (ck _ al).out];exact aR.up bz ⟨q,rfl,hq⟩⟩);have H5:=blk H4 hC am;have K5:=blk K4 c am;obtain ⟨k3,z3⟩:=lU K5 3 _ rfl;obtain ⟨H6,K6⟩:=mS H5 K5 ab 3 (.int .i64 n5);have ch:=cp.put c 3 (.int .i64 n5);have ce:=(bz.up am).setCell (p:=⟨w1.heap.size,3,none⟩) (.inl ((Y.up u).size)) (.int .i64 n5);have dc:=am.size)
  | (go_at_call 226;refine (lN ch).mono ?_;rintro e w7 h7;rcases h7.cases with ⟨f,ax,q,rfl,hq⟩|⟨⟨e7,j7⟩,v7,ax,rfl,⟨cb,cf⟩,ap⟩;(· exact ⟨rfl,by rw[xQ (ci _ _ al ax).out];exact aR.up ce ⟨q,rfl,hq⟩⟩);obtain ⟨p7,rfl⟩:=cb.ptr;have H7:=blk H6 hC ap;have K7:=blk K6 c ap;obtain ⟨k2,z2⟩:=lU K7 2 _ rfl;obtain ⟨HD,KD⟩:=mS H7 K7 ab 2 (.pointer p7);have cd:=cf.put c 2 (.pointer p7);have bw:=(ce.up ap).setCell (p:=⟨w1.heap.size,2,none⟩) (.inl ((Y.up u).size)) (.pointer p7);have co:=cb.ge (n:=w1.heap.size+1) (aB K6);have bu:=co.carry (bA (by simp) (cU w7 w1.heap.size 2 (.pointer p7)))))
 have HC:=cy _ _ _ al ax
 have k:∀x∈[C.rb],x<w1.heap.size+1:=by simp;omega
 by_cases hdo:tx C.L j7=kDo
 ·
  have Z:Hid _:=hdo
  go_wp2_with (first
   | (go_at_call 109;clear T4;refine (dM cd ⟨#[100,111]⟩ hdo (by decide)).mono ?_;rintro e x1 ⟨rfl,cg,ad⟩;have M1:=blk HD hC ad;have N1:=blk KD c ad;have bv:=bw.up ad;have ct:=bu.carry (bA k ad);have da:=ad.size)
   | (go_at_call 225;refine (mW cg).mono ?_;rintro e x2 h2;rcases h2.cases with ⟨f,Q,q,rfl,hq⟩|⟨⟨l2,m2⟩,v2,Q,rfl,⟨⟨db,cc⟩,-,cj⟩,ai⟩;(· exact ⟨rfl,by rw[xP HC.out (by rw[fR,if_pos Z.out];exact Q.out)];exact aR.up bv ⟨q,rfl,hq⟩⟩);obtain ⟨I,cap2,rfl⟩:=aP cc.own;have M2:=blk M1 hC ai;have N2:=blk N1 c ai;obtain ⟨k4,z4⟩:=lU N2 4 _ rfl;obtain ⟨M3,N3⟩:=mS M2 N2 ab 4 (.slice I l2.length cap2);have bm:=cj.put c 4 (.slice I l2.length cap2);have ak:=(bv.up ai).setCell (p:=⟨w1.heap.size,4,none⟩) (.inl ((Y.up u).size)) (.slice I l2.length cap2);have bk:=(ct.carry (bA k ai)).carry (bA (by simp) (cU x2 w1.heap.size 4 (.slice I l2.length cap2)));have dd:=ai.size;have bb:=(cc.done.ge (n:=w1.heap.size+1) (aB N1)).carry (bA (by simp) (cU x2 w1.heap.size 4 (.slice I l2.length cap2))))
   | (go_at_call 101;clear T5;refine (cD bm ⟨#[45,45,62]⟩ mE rfl (by decide)).mono ?_;rintro e x4 h4;rcases h4.cases with ⟨f,r,q,rfl,hq⟩|⟨_,v4,r,rfl,⟨rfl,ba⟩,O⟩;(· exact ⟨rfl,by rw[dG HC.out (by rw[fR,if_pos Z.out];exact Q.out),kO (aV r).1,<-(aV r).2];exact aR.up ak ⟨q,rfl,hq⟩⟩);have M4:=blk M3 hC O;have N4:=blk N3 c O;have af:=ak.up O;have bf:=bk.carry (bA k O);have bh:=bb.carry (bA k O))
   | (go_at_call 102;refine (eZ ba).mono ?_;rintro e x5 h5;rcases h5.cases with ⟨f,l,q,rfl,hq⟩|⟨U,cu,l,rfl,⟨rfl,az⟩,D⟩;(· exact ⟨rfl,by rw[dG HC.out (by rw[fR,if_pos Z.out];exact Q.out),lY (bJ r) l.out];exact aR.up af ⟨q,rfl,hq⟩⟩);rw[sv];have M5:=blk M4 hC D;have N5:=blk N4 c D;obtain ⟨k5,z5⟩:=lU N5 5 _ rfl;obtain ⟨M6,N6⟩:=mS M5 N5 ab 5 (.string ⟨U.toArray⟩);have bn:=az.put c 5 (.string ⟨U.toArray⟩);have bi:=(af.up D).setCell (p:=⟨w1.heap.size,5,none⟩) (.inl ((Y.up u).size)) (.string ⟨U.toArray⟩);have be:=(bf.carry (bA k D)).carry (bA (by simp) (cU x5 w1.heap.size 5 (.string ⟨U.toArray⟩)));have au:=(bh.carry (bA k D)).carry (bA (by simp) (cU x5 w1.heap.size 5 (.string ⟨U.toArray⟩))))
   | (go_at_call 109;refine (dS bn ⟨#[104,105,115,116,111,114,121]⟩ fX rfl (by decide)).mono ?_;rintro e x7 ⟨rfl,bp,y⟩;obtain ⟨s,aj⟩:∃s,Hid (s=decide (tx C.L (m2+2)=fX)):=⟨_,rfl⟩;rw[<-aj.out];have M7:=blk M6 hC y;have N7:=blk N6 c y;obtain ⟨k6,z6⟩:=lU N7 6 _ rfl;obtain ⟨M8,N8⟩:=mS M7 N7 ab 6 (.bool s);have bc:=bp.put c 6 (.bool s);have ah:=(bi.up y).setCell (p:=⟨w1.heap.size,6,none⟩) (.inl ((Y.up u).size)) (.bool s);have av:=(be.carry (bA k y)).carry (bA (by simp) (cU x7 w1.heap.size 6 (.bool s)));have bq:=(au.carry (bA k y)).carry (bA (by simp) (cU x7 w1.heap.size 6 (.bool s))))
   | (go_at_call 101;refine (cD bc ⟨#[59]⟩ fE rfl (by decide)).mono ?_;rintro e x9 h9;rcases h9.cases with ⟨f,aa,q,rfl,hq⟩|⟨_,v9,aa,rfl,⟨rfl,ar⟩,J⟩;(· exact ⟨rfl,by rw[dG HC.out (by rw[fR,if_pos Z.out];exact Q.out),fK (bJ r) l.out,if_neg (aV aa).1,<-(aV aa).2];exact aR.up ah ⟨q,rfl,hq⟩⟩);have M9:=blk M8 hC J;have N9:=blk N8 c J;have bj:=ah.up J;have ay:=av.carry (bA k J);have bo:=bq.carry (bA k J))
   | (refine bT rfl 273 (.tmp 5) rfl ⟨w1.heap.size,0,none⟩ rfl (.agg (oP kind n5 b1 (.pointer p7) (.slice I l2.length cap2) ⟨U.toArray⟩ s)) (rX rfl N9) ?_)
   | (refine wpList_store_row rfl 273 (.tmp 4) (.tmp 35) rfl w.heap.size (oP kind n5 b1 (.pointer p7) (.slice I l2.length cap2) ⟨U.toArray⟩ s) rfl rfl 273 _ M9 Tryz.size273 rfl (lZ _ _ _ _ _ _ _ _ _) ?_))
  refine aX5 (kS _ _ w.heap.size (oP kind n5 b1 (.pointer p7) (.slice I l2.length cap2) ⟨U.toArray⟩ s) rfl rfl (setRow_heap _ _ _ _ _ _ M9)) rfl ?_
  rw[dG HC.out (by rw[fR,if_pos Z.out];exact Q.out),fK (bJ r) l.out,if_pos (bJ aa)]
  have hsz:=(Y.up u).size
  have kR:bB (Ge (w1.heap.size+1)) (Ge (w1.heap.size+1)) x9 (x9.setRow w.heap.size (oP kind n5 b1 (.pointer p7) (.slice I l2.length cap2) ⟨U.toArray⟩ s)):=bA (by simp;omega) (sC x9 w.heap.size (oP kind n5 b1 (.pointer p7) (.slice I l2.length cap2) ⟨U.toArray⟩ s))
  exact ⟨_,rfl,⟨⟨(.pointer p7),(.slice I l2.length cap2),by rw[sM,<-aw.out,<-aj.out];rfl,(ay.carry kR).ge (by omega),(bo.carry kR).ge (by omega)⟩,ar.row hC _⟩,bj.row (.inl (aF4 _)) _⟩
 ·
  have Z:Hid _:=hdo
  go_wp2_with (first
   | (go_at_call 109;clear T4;refine (cN cd ⟨#[100,111]⟩ hdo).mono ?_;rintro e x3 ⟨rfl,bm,ae⟩;have M3:=blk HD hC ae.wide;have N3:=blk KD c ae.wide;have ak:=bw.up ae.wide;have bk:=bu.carry (bA (X:=[]) (by simp) ae);have bb:cJ (Ge (w1.heap.size+1)) x3 [] (.slice none 0 0):=sA _ _;have da:=ae.size)
   | (go_at_call 101;clear T5;refine (cD bm ⟨#[45,45,62]⟩ mE rfl (by decide)).mono ?_;rintro e x4 h4;rcases h4.cases with ⟨f,r,q,rfl,hq⟩|⟨_,v4,r,rfl,⟨rfl,ba⟩,O⟩;(· exact ⟨rfl,by rw[dG HC.out (by rw[fR,if_neg Z.out]),kO (aV r).1,<-(aV r).2];exact aR.up ak ⟨q,rfl,hq⟩⟩);have M4:=blk M3 hC O;have N4:=blk N3 c O;have af:=ak.up O;have bf:=bk.carry (bA k O);have bh:=bb.carry (bA k O))
   | (go_at_call 102;refine (eZ ba).mono ?_;rintro e x5 h5;rcases h5.cases with ⟨f,l,q,rfl,hq⟩|⟨U,cu,l,rfl,⟨rfl,az⟩,D⟩;(· exact ⟨rfl,by rw[dG HC.out (by rw[fR,if_neg Z.out]),lY (bJ r) l.out];exact aR.up af ⟨q,rfl,hq⟩⟩);rw[sv];have M5:=blk M4 hC D;have N5:=blk N4 c D;obtain ⟨k5,z5⟩:=lU N5 5 _ rfl;obtain ⟨M6,N6⟩:=mS M5 N5 ab 5 (.string ⟨U.toArray⟩);have bn:=az.put c 5 (.string ⟨U.toArray⟩);have bi:=(af.up D).setCell (p:=⟨w1.heap.size,5,none⟩) (.inl ((Y.up u).size)) (.string ⟨U.toArray⟩);have be:=(bf.carry (bA k D)).carry (bA (by simp) (cU x5 w1.heap.size 5 (.string ⟨U.toArray⟩)));have au:=(bh.carry (bA k D)).carry (bA (by simp) (cU x5 w1.heap.size 5 (.string ⟨U.toArray⟩))))
   | (go_at_call 109;refine (dS bn ⟨#[104,105,115,116,111,114,121]⟩ fX rfl (by decide)).mono ?_;rintro e x7 ⟨rfl,bp,y⟩;obtain ⟨s,aj⟩:∃s,Hid (s=decide (tx C.L (j7+2)=fX)):=⟨_,rfl⟩;rw[<-aj.out];have M7:=blk M6 hC y;have N7:=blk N6 c y;obtain ⟨k6,z6⟩:=lU N7 6 _ rfl;obtain ⟨M8,N8⟩:=mS M7 N7 ab 6 (.bool s);have bc:=bp.put c 6 (.bool s);have ah:=(bi.up y).setCell (p:=⟨w1.heap.size,6,none⟩) (.inl ((Y.up u).size)) (.bool s);have av:=(be.carry (bA k y)).carry (bA (by simp) (cU x7 w1.heap.size 6 (.bool s)));have bq:=(au.carry (bA k y)).carry (bA (by simp) (cU x7 w1.heap.size 6 (.bool s))))
   | (go_at_call 101;refine (cD bc ⟨#[59]⟩ fE rfl (by decide)).mono ?_;rintro e x9 h9;rcases h9.cases with ⟨f,aa,q,rfl,hq⟩|⟨_,v9,aa,rfl,⟨rfl,ar⟩,J⟩;(· exact ⟨rfl,by rw[dG HC.out (by rw[fR,if_neg Z.out]),fK (bJ r) l.out,if_neg (aV aa).1,<-(aV aa).2];exact aR.up ah ⟨q,rfl,hq⟩⟩);have M9:=blk M8 hC J;have N9:=blk N8 c J;have bj:=ah.up J;have ay:=av.carry (bA k J);have bo:=bq.carry (bA k J))
   | (refine bT rfl 273 (.tmp 5) rfl ⟨w1.heap.size,0,none⟩ rfl (.agg (oP kind n5 b1 (.pointer p7) (.slice none 0 0) ⟨U.toArray⟩ s)) (rX rfl N9) ?_)
   | (refine wpList_store_row rfl 273 (.tmp 4) (.tmp 35) rfl w.heap.size (oP kind n5 b1 (.pointer p7) (.slice none 0 0) ⟨U.toArray⟩ s) rfl rfl 273 _ M9 Tryz.size273 rfl (lZ _ _ _ _ _ _ _ _ _) ?_))
  refine aX5 (kS _ _ w.heap.size (oP kind n5 b1 (.pointer p7) (.slice none 0 0) ⟨U.toArray⟩ s) rfl rfl (setRow_heap _ _ _ _ _ _ M9)) rfl ?_
  rw[dG HC.out (by rw[fR,if_neg Z.out]),fK (bJ r) l.out,if_pos (bJ aa)]
  have hsz:=(Y.up u).size
  have kR:bB (Ge (w1.heap.size+1)) (Ge (w1.heap.size+1)) x9 (x9.setRow w.heap.size (oP kind n5 b1 (.pointer p7) (.slice none 0 0) ⟨U.toArray⟩ s)):=bA (by simp;omega) (sC x9 w.heap.size (oP kind n5 b1 (.pointer p7) (.slice none 0 0) ⟨U.toArray⟩ s))
  exact ⟨_,rfl,⟨⟨(.pointer p7),(.slice none 0 0),by rw[sM,<-aw.out,<-aj.out];rfl,(ay.carry kR).ge (by omega),(bo.carry kR).ge (by omega)⟩,ar.row hC _⟩,bj.row (.inl (aF4 _)) _⟩
theorem Vs {C:dV}{w:World}{i st ins:Nat}(h:PS C w i st ins 0) (kind:Nat):Calls Tryz.prog 224 #[.pointer (some ⟨C.rb,0,none⟩),.int .i64 kind] w (vU C (OkW C w st ins) w (uG C.L kind i)):=by
 by_cases hif:tx C.L (kH C.L gB i)=kIf
 ·by_cases hco:tx C.L (kH C.L gB i+1)=Q5
  ·exact Jl h kind hif hco
  ·exact aA1 h kind hif hco
 ·exact Oj h kind hif
end Go.Proofs.YthieaobjdpfcoaaGreatDoor
