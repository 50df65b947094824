import Derived.Test.YthieaobjdpfcoaaGreatDoorUPvar
set_option maxRecDepth 100000
set_option maxHeartbeats 8000000
namespace Go.Proofs.YthieaobjdpfcoaaGreatDoor
open Go.RowKit Px
theorem bA {n:Nat}{X:List Nat}{w w':World}(hX:∀x∈X,x<n) (hf:Fr w.heap.size X w w'):bB (Ge n) (Ge n) w w':=hf.keep (fun b hb hm=>by have:=hX b hm;simp[Ge] at hb;omega)
theorem aJ1 {B e size n:Nat}{X:List Nat}{v:Value}{k:List Value}{w w':World}(h:w.ownsRow B e size v n k) (s:∀x∈X,x<B) (r:Fr w.heap.size X w w'):w'.ownsRow B e size v n k:=by
 refine ⟨h.1,?_⟩
 rcases h.2 with u|⟨g,cap,j,rfl,hb,c,rest⟩
 ·exact .inl u
 ·exact .inr ⟨g,cap,j,rfl,hb,by rw[r.block g (aB c) (fun l=>by have:=s g l;omega)];exact c,rest⟩
theorem cU (w:World) (b o:Nat) (v:Value):Fr w.heap.size [b] w (w.setCell ⟨b,o,none⟩ v):=(Fr.refl _ _ _).setCell (p:=⟨b,o,none⟩) (.inr (by simp)) v
theorem sC (w:World) (b:Nat) (cs:Array Value):Fr w.heap.size [b] w (w.setRow b cs):=(Fr.refl _ _ _).row (.inr (by simp)) cs
theorem cJ.ge {n m:Nat}{w:World}{l:List iY}{v:Value}(h:cJ (Ge m) w l v) (hn:n≤m):cJ (Ge n) w l v:=h.carry (fun _ hb _=>⟨aH5 hn hb,rfl⟩)
theorem sA (A:Nat->Prop) (w:World):cJ A w [] (.slice none 0 0):=⟨[],⟨aX2 _ _ _ _,fun g hg=>by simp[Value.ownBlock] at hg⟩,rfl⟩
def xY (L:List Lx.fQ) (kind i n:Nat) (e:E) (l:List iY) (m:Nat):Except F (Wy×Nat):=
 if tx L m=mE then
  match nm L (m+1) with
  | .error x=>.error x
  | .ok s=>
   if tx L (kH L fX (m+2))=fE then .ok (⟨kind,decide (tx L i=gB),e,n,l,s,decide (tx L (m+2)=fX)⟩,kH L fX (m+2)+1)
   else .error (3,pl L (kH L fX (m+2)))
 else .error (3,pl L m)
theorem xQ {L:List Lx.fQ}{kind i:Nat}{f:F}(h:cond L (kH L gB i)=.error f):uG L kind i=.error f:=by rw[uG,h]
theorem xP {L:List Lx.fQ}{kind i n j:Nat}{e:E}{f:F}(h:cond L (kH L gB i)=.ok (n,e,j)) (h2:fR L j=.error f):uG L kind i=.error f:=by rw[uG,h];simp only;rw[h2]
theorem dG {L:List Lx.fQ}{kind i n j m:Nat}{e:E}{l:List iY}(h:cond L (kH L gB i)=.ok (n,e,j)) (h2:fR L j=.ok (l,m)):uG L kind i=xY L kind i n e l m:=by rw[uG,h];simp only;rw[h2];simp only;rw[xY];split<;>rfl
theorem kO {L:List Lx.fQ}{kind i n m:Nat}{e:E}{l:List iY}(h:tx L m≠mE):xY L kind i n e l m=.error (3,pl L m):=if_neg h
theorem lY {L:List Lx.fQ}{kind i n m:Nat}{e:E}{l:List iY}{f:F}(h:tx L m=mE) (h2:nm L (m+1)=.error f):xY L kind i n e l m=.error f:=by rw[xY,if_pos h,h2]
theorem fK {L:List Lx.fQ}{kind i n m:Nat}{e:E}{l:List iY}{s:bE}(h:tx L m=mE) (h2:nm L (m+1)=.ok s):xY L kind i n e l m=if tx L (kH L fX (m+2))=fE then .ok (⟨kind,decide (tx L i=gB),e,n,l,s,decide (tx L (m+2)=fX)⟩,kH L fX (m+2)+1) else .error (3,pl L (kH L fX (m+2))):=by rw[xY,if_pos h,h2]
theorem Tryz.size273:(Tryz.prog.info? 273).map (·.size)=some 7:=by kernel_rfl
theorem rX {W:World}{g:Nat}{fc:Array Value}(hsz:fc.size=7) (hg:W.heap[g]?=some (.cells fc 273 (0,0))):(loadVar 273 ⟨g,0,none⟩).run Tryz.prog W=.ok (.agg fc) W:=
 run_loadVar_row (P:=Tryz.prog) W g 273 273 fc (0,0) _ hg Tryz.underlying273 rfl (by rw[hsz];exact Tryz.size273)
theorem kS (c:Array Value) (W:World) (g:Nat) (h:Array Value) (hsz:h.size=7) (k:c.getD 4 undef=.pointer (some ⟨g,0,none⟩)) (l:W.heap[g]?=some (.cells h 273 (0,0))) :
    (results Tryz.f224 c).run Tryz.prog W=.ok (.agg h) W:=by
 have j:c[4]?.getD undef=.pointer (some ⟨g,0,none⟩):=by simpa using k
 simp[results,Tryz.results224,j,asAddr,rX hsz l]
theorem lZ (a n:Int) (b c:Bool) (p:Option Addr) (ao:Option Addr) (x y:Nat) (s:ByteArray):(#[Value.int .i64 a,.bool b,.pointer p,.int .i64 n,.slice ao x y,.string s,.bool c]:Array Value).all (·.oneCell')=true:=by simp[Value.oneCell']
def sM (a:Wy) (p q:Value):Array Value:=#[.int .i64 a.kind,.bool a.now,p,.int .i64 a.times,q,sv a.to,.bool a.back]
def OkW (C:dV) (w:World) (st ins:Nat) (x:Wy×Nat) (v:Value) (w':World):Prop:=(∃p q,v=.agg (sM x.1 p q)/\jR (Ge w.heap.size) w' x.1.cond p/\cJ (Ge w.heap.size) w' x.1.sets q)/\PS C w' x.2 st ins 0
abbrev Yt:Array Value:=#[.int .i64 0,.bool false,.pointer none,.int .i64 0,.slice none 0 0,.string ⟨#[]⟩,.bool false]
abbrev oP (kind n:Int) (b:Bool) (p q:Value) (s:ByteArray) (c:Bool):Array Value:=#[.int .i64 kind,.bool b,p,.int .i64 n,q,.string s,.bool c]
theorem Oj {C:dV}{w:World}{i st ins:Nat}(h:PS C w i st ins 0) (kind:Nat) (bf:tx C.L (kH C.L gB i)≠kIf):Calls Tryz.prog 224 #[.pointer (some ⟨C.rb,0,none⟩),.int .i64 kind] w (vU C (OkW C w st ins) w (uG C.L kind i)):=by
 have Z:=h.lts.1
 obtain ⟨cc,Y⟩:=h.alloc (.cells Yt 273)
 have H0:(w.alloc (.cells Yt 273)).heap[w.heap.size]?=some (.cells Yt 273 (0,0)):=heap_alloc_new _ _
 have HC:Hid (cond C.L (kH C.L gB i)=.ok (1,.nil,kH C.L gB i)):=if_neg bf
 have cg:Hid _:=bf
 clear bf
 have T1:Hid True:=trivial
 have T2:Hid True:=trivial
 have T3:Hid True:=trivial
 have T4:Hid True:=trivial
 have T5:Hid True:=trivial
 go_enter Tryz.func224,Tryz.ntmps224
 go_wp2_with (first
  | (go_at_call 109;clear T1;refine (dS cc ⟨#[105,109,109,101,100,105,97,116,101]⟩ gB rfl (by decide)).mono ?_;rintro e w1 ⟨rfl,bp,J⟩;obtain ⟨b1,bj⟩:∃b1,Hid (b1=decide (tx C.L i=gB)):=⟨_,rfl⟩;rw[<-bj.out];have H1:=blk H0 Z J;obtain ⟨bv,bm⟩:=bp.alloc (.cells (oP kind 1 b1 (.pointer none) (.slice none 0 0) ⟨#[]⟩ false) 273);have H2:=blk H1 Z bm;have j:=bp.lts.1;have ag:w.heap.size≠w1.heap.size:=(by (have:=J.size;simp at this;omega));have K2:(w1.alloc (.cells (oP kind 1 b1 (.pointer none) (.slice none 0 0) ⟨#[]⟩ false) 273)).heap[w1.heap.size]?=some (.cells (oP kind 1 b1 (.pointer none) (.slice none 0 0) ⟨#[]⟩ false) 273 (0,0)):=heap_alloc_new _ _;have ce:=(Y.up J).up bm)
  | (go_at_call 109;clear T2;refine (cN bv ⟨#[105,102]⟩ cg.out).mono ?_;rintro e w3 ⟨rfl,cf,aj⟩;have H3:=blk H2 Z aj.wide;have K3:=blk K2 j aj.wide;have bu:=ce.up aj.wide;have ci:=aj.size))
 have bo:=cf
 have HD:=H3
 have KD:=K3
 have bq:=bu
 have br:jR (Ge (w1.heap.size+1)) w3 .nil (.pointer none):=rfl
 have c:∀x∈[C.rb],x<w1.heap.size+1:=by simp;omega
 by_cases hdo:tx C.L (kH C.L gB i)=kDo
 ·
  have O:Hid _:=hdo
  go_wp2_with (first
   | (go_at_call 109;clear T4;refine (dM bo ⟨#[100,111]⟩ hdo (by decide)).mono ?_;rintro e x1 ⟨rfl,bw,ad⟩;have M1:=blk HD Z ad;have N1:=blk KD j ad;have bk:=bq.up ad;have cd:=br.carry (bA c ad);have bz:=ad.size)
   | (go_at_call 225;refine (mW bw).mono ?_;rintro e x2 h2;rcases h2.cases with ⟨f,aa,q,rfl,hq⟩|⟨⟨l2,m2⟩,v2,aa,rfl,⟨⟨ch,bn⟩,-,cb⟩,ah⟩;(· exact ⟨rfl,by rw[xP HC.out (by rw[fR,if_pos O.out];exact aa.out)];exact aR.up bk ⟨q,rfl,hq⟩⟩);obtain ⟨I,cap2,rfl⟩:=aP bn.own;have M2:=blk M1 Z ah;have N2:=blk N1 j ah;obtain ⟨k4,z4⟩:=lU N2 4 _ rfl;obtain ⟨M3,N3⟩:=mS M2 N2 ag 4 (.slice I l2.length cap2);have be:=cb.put j 4 (.slice I l2.length cap2);have ab:=(bk.up ah).setCell (p:=⟨w1.heap.size,4,none⟩) (.inl ((Y.up J).size)) (.slice I l2.length cap2);have bb:=(cd.carry (bA c ah)).carry (bA (by simp) (cU x2 w1.heap.size 4 (.slice I l2.length cap2)));have cj:=ah.size;have bi:=(bn.done.ge (n:=w1.heap.size+1) (aB N1)).carry (bA (by simp) (cU x2 w1.heap.size 4 (.slice I l2.length cap2))))
   | (go_at_call 101;clear T5;refine (cD be ⟨#[45,45,62]⟩ mE rfl (by decide)).mono ?_;rintro e x4 h4;rcases h4.cases with ⟨f,l,q,rfl,hq⟩|⟨_,v4,l,rfl,⟨rfl,ax⟩,s⟩;(· exact ⟨rfl,by rw[dG HC.out (by rw[fR,if_pos O.out];exact aa.out),kO (aV l).1,<-(aV l).2];exact aR.up ab ⟨q,rfl,hq⟩⟩);have M4:=blk M3 Z s;have N4:=blk N3 j s;have ai:=ab.up s;have ap:=bb.carry (bA c s);have az:=bi.carry (bA c s))
   | (go_at_call 102;refine (eZ ax).mono ?_;rintro e x5 h5;rcases h5.cases with ⟨f,k,q,rfl,hq⟩|⟨Q,ca,k,rfl,⟨rfl,av⟩,u⟩;(· exact ⟨rfl,by rw[dG HC.out (by rw[fR,if_pos O.out];exact aa.out),lY (bJ l) k.out];exact aR.up ai ⟨q,rfl,hq⟩⟩);rw[sv];have M5:=blk M4 Z u;have N5:=blk N4 j u;obtain ⟨k5,z5⟩:=lU N5 5 _ rfl;obtain ⟨M6,N6⟩:=mS M5 N5 ag 5 (.string ⟨Q.toArray⟩);have ar:=av.put j 5 (.string ⟨Q.toArray⟩);have ba:=(ai.up u).setCell (p:=⟨w1.heap.size,5,none⟩) (.inl ((Y.up J).size)) (.string ⟨Q.toArray⟩);have ak:=(ap.carry (bA c u)).carry (bA (by simp) (cU x5 w1.heap.size 5 (.string ⟨Q.toArray⟩)));have al:=(az.carry (bA c u)).carry (bA (by simp) (cU x5 w1.heap.size 5 (.string ⟨Q.toArray⟩))))
   | (go_at_call 109;refine (dS ar ⟨#[104,105,115,116,111,114,121]⟩ fX rfl (by decide)).mono ?_;rintro e x7 ⟨rfl,am,y⟩;obtain ⟨r,ac⟩:∃r,Hid (r=decide (tx C.L (m2+2)=fX)):=⟨_,rfl⟩;rw[<-ac.out];have M7:=blk M6 Z y;have N7:=blk N6 j y;obtain ⟨k6,z6⟩:=lU N7 6 _ rfl;obtain ⟨M8,N8⟩:=mS M7 N7 ag 6 (.bool r);have bc:=am.put j 6 (.bool r);have ae:=(ba.up y).setCell (p:=⟨w1.heap.size,6,none⟩) (.inl ((Y.up J).size)) (.bool r);have an:=(ak.carry (bA c y)).carry (bA (by simp) (cU x7 w1.heap.size 6 (.bool r)));have ao:=(al.carry (bA c y)).carry (bA (by simp) (cU x7 w1.heap.size 6 (.bool r))))
   | (go_at_call 101;refine (cD bc ⟨#[59]⟩ fE rfl (by decide)).mono ?_;rintro e x9 h9;rcases h9.cases with ⟨f,U,q,rfl,hq⟩|⟨_,v9,U,rfl,⟨rfl,au⟩,D⟩;(· exact ⟨rfl,by rw[dG HC.out (by rw[fR,if_pos O.out];exact aa.out),fK (bJ l) k.out,if_neg (aV U).1,<-(aV U).2];exact aR.up ae ⟨q,rfl,hq⟩⟩);have M9:=blk M8 Z D;have N9:=blk N8 j D;have aw:=ae.up D;have bh:=an.carry (bA c D);have ay:=ao.carry (bA c D))
   | (refine bT rfl 273 (.tmp 5) rfl ⟨w1.heap.size,0,none⟩ rfl (.agg (oP kind 1 b1 (.pointer none) (.slice I l2.length cap2) ⟨Q.toArray⟩ r)) (rX rfl N9) ?_)
   | (refine wpList_store_row rfl 273 (.tmp 4) (.tmp 35) rfl w.heap.size (oP kind 1 b1 (.pointer none) (.slice I l2.length cap2) ⟨Q.toArray⟩ r) rfl rfl 273 _ M9 Tryz.size273 rfl (lZ _ _ _ _ _ _ _ _ _) ?_))
  refine aX5 (kS _ _ w.heap.size (oP kind 1 b1 (.pointer none) (.slice I l2.length cap2) ⟨Q.toArray⟩ r) rfl rfl (setRow_heap _ _ _ _ _ _ M9)) rfl ?_
  rw[dG HC.out (by rw[fR,if_pos O.out];exact aa.out),fK (bJ l) k.out,if_pos (bJ U)]
  have hsz:=(Y.up J).size
  have kR:bB (Ge (w1.heap.size+1)) (Ge (w1.heap.size+1)) x9 (x9.setRow w.heap.size (oP kind 1 b1 (.pointer none) (.slice I l2.length cap2) ⟨Q.toArray⟩ r)):=bA (by simp;omega) (sC x9 w.heap.size (oP kind 1 b1 (.pointer none) (.slice I l2.length cap2) ⟨Q.toArray⟩ r))
  exact ⟨_,rfl,⟨⟨(.pointer none),(.slice I l2.length cap2),by rw[sM,<-bj.out,<-ac.out];rfl,(bh.carry kR).ge (by omega),(ay.carry kR).ge (by omega)⟩,au.row Z _⟩,aw.row (.inl (aF4 _)) _⟩
 ·
  have O:Hid _:=hdo
  go_wp2_with (first
   | (go_at_call 109;clear T4;refine (cN bo ⟨#[100,111]⟩ hdo).mono ?_;rintro e x3 ⟨rfl,be,af⟩;have M3:=blk HD Z af.wide;have N3:=blk KD j af.wide;have ab:=bq.up af.wide;have bb:=br.carry (bA (X:=[]) (by simp) af);have bi:cJ (Ge (w1.heap.size+1)) x3 [] (.slice none 0 0):=sA _ _;have bz:=af.size)
   | (go_at_call 101;clear T5;refine (cD be ⟨#[45,45,62]⟩ mE rfl (by decide)).mono ?_;rintro e x4 h4;rcases h4.cases with ⟨f,l,q,rfl,hq⟩|⟨_,v4,l,rfl,⟨rfl,ax⟩,s⟩;(· exact ⟨rfl,by rw[dG HC.out (by rw[fR,if_neg O.out]),kO (aV l).1,<-(aV l).2];exact aR.up ab ⟨q,rfl,hq⟩⟩);have M4:=blk M3 Z s;have N4:=blk N3 j s;have ai:=ab.up s;have ap:=bb.carry (bA c s);have az:=bi.carry (bA c s))
   | (go_at_call 102;refine (eZ ax).mono ?_;rintro e x5 h5;rcases h5.cases with ⟨f,k,q,rfl,hq⟩|⟨Q,ca,k,rfl,⟨rfl,av⟩,u⟩;(· exact ⟨rfl,by rw[dG HC.out (by rw[fR,if_neg O.out]),lY (bJ l) k.out];exact aR.up ai ⟨q,rfl,hq⟩⟩);rw[sv];have M5:=blk M4 Z u;have N5:=blk N4 j u;obtain ⟨k5,z5⟩:=lU N5 5 _ rfl;obtain ⟨M6,N6⟩:=mS M5 N5 ag 5 (.string ⟨Q.toArray⟩);have ar:=av.put j 5 (.string ⟨Q.toArray⟩);have ba:=(ai.up u).setCell (p:=⟨w1.heap.size,5,none⟩) (.inl ((Y.up J).size)) (.string ⟨Q.toArray⟩);have ak:=(ap.carry (bA c u)).carry (bA (by simp) (cU x5 w1.heap.size 5 (.string ⟨Q.toArray⟩)));have al:=(az.carry (bA c u)).carry (bA (by simp) (cU x5 w1.heap.size 5 (.string ⟨Q.toArray⟩))))
   | (go_at_call 109;refine (dS ar ⟨#[104,105,115,116,111,114,121]⟩ fX rfl (by decide)).mono ?_;rintro e x7 ⟨rfl,am,y⟩;obtain ⟨r,ac⟩:∃r,Hid (r=decide (tx C.L ((kH C.L gB i)+2)=fX)):=⟨_,rfl⟩;rw[<-ac.out];have M7:=blk M6 Z y;have N7:=blk N6 j y;obtain ⟨k6,z6⟩:=lU N7 6 _ rfl;obtain ⟨M8,N8⟩:=mS M7 N7 ag 6 (.bool r);have bc:=am.put j 6 (.bool r);have ae:=(ba.up y).setCell (p:=⟨w1.heap.size,6,none⟩) (.inl ((Y.up J).size)) (.bool r);have an:=(ak.carry (bA c y)).carry (bA (by simp) (cU x7 w1.heap.size 6 (.bool r)));have ao:=(al.carry (bA c y)).carry (bA (by simp) (cU x7 w1.heap.size 6 (.bool r))))
   | (go_at_call 101;refine (cD bc ⟨#[59]⟩ fE rfl (by decide)).mono ?_;rintro e x9 h9;rcases h9.cases with ⟨f,U,q,rfl,hq⟩|⟨_,v9,U,rfl,⟨rfl,au⟩,D⟩;(· exact ⟨rfl,by rw[dG HC.out (by rw[fR,if_neg O.out]),fK (bJ l) k.out,if_neg (aV U).1,<-(aV U).2];exact aR.up ae ⟨q,rfl,hq⟩⟩);have M9:=blk M8 Z D;have N9:=blk N8 j D;have aw:=ae.up D;have bh:=an.carry (bA c D);have ay:=ao.carry (bA c D))
   | (refine bT rfl 273 (.tmp 5) rfl ⟨w1.heap.size,0,none⟩ rfl (.agg (oP kind 1 b1 (.pointer none) (.slice none 0 0) ⟨Q.toArray⟩ r)) (rX rfl N9) ?_)
   | (refine wpList_store_row rfl 273 (.tmp 4) (.tmp 35) rfl w.heap.size (oP kind 1 b1 (.pointer none) (.slice none 0 0) ⟨Q.toArray⟩ r) rfl rfl 273 _ M9 Tryz.size273 rfl (lZ _ _ _ _ _ _ _ _ _) ?_))
  refine aX5 (kS _ _ w.heap.size (oP kind 1 b1 (.pointer none) (.slice none 0 0) ⟨Q.toArray⟩ r) rfl rfl (setRow_heap _ _ _ _ _ _ M9)) rfl ?_
  rw[dG HC.out (by rw[fR,if_neg O.out]),fK (bJ l) k.out,if_pos (bJ U)]
  have hsz:=(Y.up J).size
  have kR:bB (Ge (w1.heap.size+1)) (Ge (w1.heap.size+1)) x9 (x9.setRow w.heap.size (oP kind 1 b1 (.pointer none) (.slice none 0 0) ⟨Q.toArray⟩ r)):=bA (by simp;omega) (sC x9 w.heap.size (oP kind 1 b1 (.pointer none) (.slice none 0 0) ⟨Q.toArray⟩ r))
  exact ⟨_,rfl,⟨⟨(.pointer none),(.slice none 0 0),by rw[sM,<-bj.out,<-ac.out];rfl,(bh.carry kR).ge (by omega),(ay.carry kR).ge (by omega)⟩,au.row Z _⟩,aw.row (.inl (aF4 _)) _⟩
theorem aA1 {C:dV}{w:World}{i st ins:Nat}(h:PS C w i st ins 0) (kind:Nat) (al:tx C.L (kH C.L gB i)=kIf) (ak:tx C.L (kH C.L gB i+1)≠Q5):Calls Tryz.prog 224 #[.pointer (some ⟨C.rb,0,none⟩),.int .i64 kind] w (vU C (OkW C w st ins) w (uG C.L kind i)):=by
 have hC:=h.lts.1
 obtain ⟨cp,Z⟩:=h.alloc (.cells Yt 273)
 have H0:(w.alloc (.cells Yt 273)).heap[w.heap.size]?=some (.cells Yt 273 (0,0)):=heap_alloc_new _ _
 have cc:∀f,Hid (eP C.L (kH C.L gB i+1)=.error f)->Hid (cond C.L (kH C.L gB i)=.error f):=fun f hr=>by rw[Hid,Px.cond,if_pos al,if_neg ak,hr.out]
 have ci:∀e j,Hid (eP C.L (kH C.L gB i+1)=.ok (e,j))->Hid (cond C.L (kH C.L gB i)=.ok (1,e,j)):=fun e j hr=>by rw[Hid,Px.cond,if_pos al,if_neg ak,hr.out]
 have cu:Hid _:=al
 have ch:Hid _:=ak
 clear al ak
 have T1:Hid True:=trivial
 have T2:Hid True:=trivial
 have T3:Hid True:=trivial
 have T4:Hid True:=trivial
 have T5:Hid True:=trivial
 go_enter Tryz.func224,Tryz.ntmps224
 go_wp2_with (first
  | (go_at_call 109;clear T1;refine (dS cp ⟨#[105,109,109,101,100,105,97,116,101]⟩ gB rfl (by decide)).mono ?_;rintro e w1 ⟨rfl,bw,y⟩;obtain ⟨b1,bo⟩:∃b1,Hid (b1=decide (tx C.L i=gB)):=⟨_,rfl⟩;rw[<-bo.out];have H1:=blk H0 hC y;obtain ⟨cg,bq⟩:=bw.alloc (.cells (oP kind 1 b1 (.pointer none) (.slice none 0 0) ⟨#[]⟩ false) 273);have H2:=blk H1 hC bq;have c:=bw.lts.1;have aa:w.heap.size≠w1.heap.size:=(by (have:=y.size;simp at this;omega));have K2:(w1.alloc (.cells (oP kind 1 b1 (.pointer none) (.slice none 0 0) ⟨#[]⟩ false) 273)).heap[w1.heap.size]?=some (.cells (oP kind 1 b1 (.pointer none) (.slice none 0 0) ⟨#[]⟩ false) 273 (0,0)):=heap_alloc_new _ _;have cr:=(Z.up y).up bq)
  | (go_at_call 109;clear T2;refine (dM cg ⟨#[105,102]⟩ cu.out (by decide)).mono ?_;rintro e w3 ⟨rfl,ct,am⟩;have H3:=blk H2 hC am;have K3:=blk K2 c am;have ce:=cr.up am;have cx:=am.size)
  | (go_at_call 109;clear T3;refine (cN ct ⟨#[99,111,117,110,116]⟩ ch.out).mono ?_;rintro e w4 ⟨rfl,cm,aj⟩;have H4:=blk H3 hC aj.wide;have K4:=blk K3 c aj.wide;have ca:=ce.up aj.wide;have cw:=aj.size)
  | (go_at_call 226;refine (lN cm).mono ?_;rintro e w7 h7;rcases h7.cases with ⟨f,ba,q,rfl,hq⟩|⟨⟨e7,j7⟩,v7,ba,rfl,⟨br,cf⟩,bh⟩;(· exact ⟨rfl,by rw[xQ (cc _ ba).out];exact aR.up ca ⟨q,rfl,hq⟩⟩);obtain ⟨p7,rfl⟩:=br.ptr;have H7:=blk H4 hC bh;have K7:=blk K4 c bh;obtain ⟨k2,z2⟩:=lU K7 2 _ rfl;obtain ⟨HD,KD⟩:=mS H7 K7 aa 2 (.pointer p7);have bv:=cf.put c 2 (.pointer p7);have bz:=(ca.up bh).setCell (p:=⟨w1.heap.size,2,none⟩) (.inl ((Z.up y).size)) (.pointer p7);have cd:=br.ge (n:=w1.heap.size+1) (aB K4);have cb:=cd.carry (bA (by simp) (cU w7 w1.heap.size 2 (.pointer p7)))))
 have HC:=ci _ _ ba
 have k:∀x∈[C.rb],x<w1.heap.size+1:=by simp;omega
 by_cases hdo:tx C.L j7=kDo
 ·
  have Q:Hid _:=hdo
  go_wp2_with (first
   | (go_at_call 109;clear T4;refine (dM bv ⟨#[100,111]⟩ hdo (by decide)).mono ?_;rintro e x1 ⟨rfl,cj,ae⟩;have M1:=blk HD hC ae;have N1:=blk KD c ae;have bp:=bz.up ae;have cq:=cb.carry (bA k ae);have ck:=ae.size)
   | (go_at_call 225;refine (mW cj).mono ?_;rintro e x2 h2;rcases h2.cases with ⟨f,ab,q,rfl,hq⟩|⟨⟨l2,m2⟩,v2,ab,rfl,⟨⟨cv,bu⟩,-,co⟩,ah⟩;(· exact ⟨rfl,by rw[xP HC.out (by rw[fR,if_pos Q.out];exact ab.out)];exact aR.up bp ⟨q,rfl,hq⟩⟩);obtain ⟨O,cap2,rfl⟩:=aP bu.own;have M2:=blk M1 hC ah;have N2:=blk N1 c ah;obtain ⟨k4,z4⟩:=lU N2 4 _ rfl;obtain ⟨M3,N3⟩:=mS M2 N2 aa 4 (.slice O l2.length cap2);have bk:=co.put c 4 (.slice O l2.length cap2);have ac:=(bp.up ah).setCell (p:=⟨w1.heap.size,4,none⟩) (.inl ((Z.up y).size)) (.slice O l2.length cap2);have bi:=(cq.carry (bA k ah)).carry (bA (by simp) (cU x2 w1.heap.size 4 (.slice O l2.length cap2)));have cy:=ah.size;have bn:=(bu.done.ge (n:=w1.heap.size+1) (aB N1)).carry (bA (by simp) (cU x2 w1.heap.size 4 (.slice O l2.length cap2))))
   | (go_at_call 101;clear T5;refine (cD bk ⟨#[45,45,62]⟩ mE rfl (by decide)).mono ?_;rintro e x4 h4;rcases h4.cases with ⟨f,r,q,rfl,hq⟩|⟨_,v4,r,rfl,⟨rfl,bb⟩,u⟩;(· exact ⟨rfl,by rw[dG HC.out (by rw[fR,if_pos Q.out];exact ab.out),kO (aV r).1,<-(aV r).2];exact aR.up ac ⟨q,rfl,hq⟩⟩);have M4:=blk M3 hC u;have N4:=blk N3 c u;have ai:=ac.up u;have av:=bi.carry (bA k u);have be:=bn.carry (bA k u))
   | (go_at_call 102;refine (eZ bb).mono ?_;rintro e x5 h5;rcases h5.cases with ⟨f,l,q,rfl,hq⟩|⟨U,cn,l,rfl,⟨rfl,ay⟩,D⟩;(· exact ⟨rfl,by rw[dG HC.out (by rw[fR,if_pos Q.out];exact ab.out),lY (bJ r) l.out];exact aR.up ai ⟨q,rfl,hq⟩⟩);rw[sv];have M5:=blk M4 hC D;have N5:=blk N4 c D;obtain ⟨k5,z5⟩:=lU N5 5 _ rfl;obtain ⟨M6,N6⟩:=mS M5 N5 aa 5 (.string ⟨U.toArray⟩);have aw:=ay.put c 5 (.string ⟨U.toArray⟩);have bf:=(ai.up D).setCell (p:=⟨w1.heap.size,5,none⟩) (.inl ((Z.up y).size)) (.string ⟨U.toArray⟩);have an:=(av.carry (bA k D)).carry (bA (by simp) (cU x5 w1.heap.size 5 (.string ⟨U.toArray⟩)));have ao:=(be.carry (bA k D)).carry (bA (by simp) (cU x5 w1.heap.size 5 (.string ⟨U.toArray⟩))))
   | (go_at_call 109;refine (dS aw ⟨#[104,105,115,116,111,114,121]⟩ fX rfl (by decide)).mono ?_;rintro e x7 ⟨rfl,ap,I⟩;obtain ⟨s,ad⟩:∃s,Hid (s=decide (tx C.L (m2+2)=fX)):=⟨_,rfl⟩;rw[<-ad.out];have M7:=blk M6 hC I;have N7:=blk N6 c I;obtain ⟨k6,z6⟩:=lU N7 6 _ rfl;obtain ⟨M8,N8⟩:=mS M7 N7 aa 6 (.bool s);have bj:=ap.put c 6 (.bool s);have af:=(bf.up I).setCell (p:=⟨w1.heap.size,6,none⟩) (.inl ((Z.up y).size)) (.bool s);have ar:=(an.carry (bA k I)).carry (bA (by simp) (cU x7 w1.heap.size 6 (.bool s)));have au:=(ao.carry (bA k I)).carry (bA (by simp) (cU x7 w1.heap.size 6 (.bool s))))
   | (go_at_call 101;refine (cD bj ⟨#[59]⟩ fE rfl (by decide)).mono ?_;rintro e x9 h9;rcases h9.cases with ⟨f,Y,q,rfl,hq⟩|⟨_,v9,Y,rfl,⟨rfl,ax⟩,J⟩;(· exact ⟨rfl,by rw[dG HC.out (by rw[fR,if_pos Q.out];exact ab.out),fK (bJ r) l.out,if_neg (aV Y).1,<-(aV Y).2];exact aR.up af ⟨q,rfl,hq⟩⟩);have M9:=blk M8 hC J;have N9:=blk N8 c J;have az:=af.up J;have bm:=ar.carry (bA k J);have bc:=au.carry (bA k J))
   | (refine bT rfl 273 (.tmp 5) rfl ⟨w1.heap.size,0,none⟩ rfl (.agg (oP kind 1 b1 (.pointer p7) (.slice O l2.length cap2) ⟨U.toArray⟩ s)) (rX rfl N9) ?_)
   | (refine wpList_store_row rfl 273 (.tmp 4) (.tmp 35) rfl w.heap.size (oP kind 1 b1 (.pointer p7) (.slice O l2.length cap2) ⟨U.toArray⟩ s) rfl rfl 273 _ M9 Tryz.size273 rfl (lZ _ _ _ _ _ _ _ _ _) ?_))
  refine aX5 (kS _ _ w.heap.size (oP kind 1 b1 (.pointer p7) (.slice O l2.length cap2) ⟨U.toArray⟩ s) rfl rfl (setRow_heap _ _ _ _ _ _ M9)) rfl ?_
  rw[dG HC.out (by rw[fR,if_pos Q.out];exact ab.out),fK (bJ r) l.out,if_pos (bJ Y)]
  have hsz:=(Z.up y).size
  have kR:bB (Ge (w1.heap.size+1)) (Ge (w1.heap.size+1)) x9 (x9.setRow w.heap.size (oP kind 1 b1 (.pointer p7) (.slice O l2.length cap2) ⟨U.toArray⟩ s)):=bA (by simp;omega) (sC x9 w.heap.size (oP kind 1 b1 (.pointer p7) (.slice O l2.length cap2) ⟨U.toArray⟩ s))
  exact ⟨_,rfl,⟨⟨(.pointer p7),(.slice O l2.length cap2),by rw[sM,<-bo.out,<-ad.out];rfl,(bm.carry kR).ge (by omega),(bc.carry kR).ge (by omega)⟩,ax.row hC _⟩,az.row (.inl (aF4 _)) _⟩
 ·
  have Q:Hid _:=hdo
  go_wp2_with (first
   | (go_at_call 109;clear T4;refine (cN bv ⟨#[100,111]⟩ hdo).mono ?_;rintro e x3 ⟨rfl,bk,ag⟩;have M3:=blk HD hC ag.wide;have N3:=blk KD c ag.wide;have ac:=bz.up ag.wide;have bi:=cb.carry (bA (X:=[]) (by simp) ag);have bn:cJ (Ge (w1.heap.size+1)) x3 [] (.slice none 0 0):=sA _ _;have ck:=ag.size)
   | (go_at_call 101;clear T5;refine (cD bk ⟨#[45,45,62]⟩ mE rfl (by decide)).mono ?_;rintro e x4 h4;rcases h4.cases with ⟨f,r,q,rfl,hq⟩|⟨_,v4,r,rfl,⟨rfl,bb⟩,u⟩;(· exact ⟨rfl,by rw[dG HC.out (by rw[fR,if_neg Q.out]),kO (aV r).1,<-(aV r).2];exact aR.up ac ⟨q,rfl,hq⟩⟩);have M4:=blk M3 hC u;have N4:=blk N3 c u;have ai:=ac.up u;have av:=bi.carry (bA k u);have be:=bn.carry (bA k u))
   | (go_at_call 102;refine (eZ bb).mono ?_;rintro e x5 h5;rcases h5.cases with ⟨f,l,q,rfl,hq⟩|⟨U,cn,l,rfl,⟨rfl,ay⟩,D⟩;(· exact ⟨rfl,by rw[dG HC.out (by rw[fR,if_neg Q.out]),lY (bJ r) l.out];exact aR.up ai ⟨q,rfl,hq⟩⟩);rw[sv];have M5:=blk M4 hC D;have N5:=blk N4 c D;obtain ⟨k5,z5⟩:=lU N5 5 _ rfl;obtain ⟨M6,N6⟩:=mS M5 N5 aa 5 (.string ⟨U.toArray⟩);have aw:=ay.put c 5 (.string ⟨U.toArray⟩);have bf:=(ai.up D).setCell (p:=⟨w1.heap.size,5,none⟩) (.inl ((Z.up y).size)) (.string ⟨U.toArray⟩);have an:=(av.carry (bA k D)).carry (bA (by simp) (cU x5 w1.heap.size 5 (.string ⟨U.toArray⟩)));have ao:=(be.carry (bA k D)).carry (bA (by simp) (cU x5 w1.heap.size 5 (.string ⟨U.toArray⟩))))
   | (go_at_call 109;refine (dS aw ⟨#[104,105,115,116,111,114,121]⟩ fX rfl (by decide)).mono ?_;rintro e x7 ⟨rfl,ap,I⟩;obtain ⟨s,ad⟩:∃s,Hid (s=decide (tx C.L (j7+2)=fX)):=⟨_,rfl⟩;rw[<-ad.out];have M7:=blk M6 hC I;have N7:=blk N6 c I;obtain ⟨k6,z6⟩:=lU N7 6 _ rfl;obtain ⟨M8,N8⟩:=mS M7 N7 aa 6 (.bool s);have bj:=ap.put c 6 (.bool s);have af:=(bf.up I).setCell (p:=⟨w1.heap.size,6,none⟩) (.inl ((Z.up y).size)) (.bool s);have ar:=(an.carry (bA k I)).carry (bA (by simp) (cU x7 w1.heap.size 6 (.bool s)));have au:=(ao.carry (bA k I)).carry (bA (by simp) (cU x7 w1.heap.size 6 (.bool s))))
   | (go_at_call 101;refine (cD bj ⟨#[59]⟩ fE rfl (by decide)).mono ?_;rintro e x9 h9;rcases h9.cases with ⟨f,Y,q,rfl,hq⟩|⟨_,v9,Y,rfl,⟨rfl,ax⟩,J⟩;(· exact ⟨rfl,by rw[dG HC.out (by rw[fR,if_neg Q.out]),fK (bJ r) l.out,if_neg (aV Y).1,<-(aV Y).2];exact aR.up af ⟨q,rfl,hq⟩⟩);have M9:=blk M8 hC J;have N9:=blk N8 c J;have az:=af.up J;have bm:=ar.carry (bA k J);have bc:=au.carry (bA k J))
   | (refine bT rfl 273 (.tmp 5) rfl ⟨w1.heap.size,0,none⟩ rfl (.agg (oP kind 1 b1 (.pointer p7) (.slice none 0 0) ⟨U.toArray⟩ s)) (rX rfl N9) ?_)
   | (refine wpList_store_row rfl 273 (.tmp 4) (.tmp 35) rfl w.heap.size (oP kind 1 b1 (.pointer p7) (.slice none 0 0) ⟨U.toArray⟩ s) rfl rfl 273 _ M9 Tryz.size273 rfl (lZ _ _ _ _ _ _ _ _ _) ?_))
  refine aX5 (kS _ _ w.heap.size (oP kind 1 b1 (.pointer p7) (.slice none 0 0) ⟨U.toArray⟩ s) rfl rfl (setRow_heap _ _ _ _ _ _ M9)) rfl ?_
  rw[dG HC.out (by rw[fR,if_neg Q.out]),fK (bJ r) l.out,if_pos (bJ Y)]
  have hsz:=(Z.up y).size
  have kR:bB (Ge (w1.heap.size+1)) (Ge (w1.heap.size+1)) x9 (x9.setRow w.heap.size (oP kind 1 b1 (.pointer p7) (.slice none 0 0) ⟨U.toArray⟩ s)):=bA (by simp;omega) (sC x9 w.heap.size (oP kind 1 b1 (.pointer p7) (.slice none 0 0) ⟨U.toArray⟩ s))
  exact ⟨_,rfl,⟨⟨(.pointer p7),(.slice none 0 0),by rw[sM,<-bo.out,<-ad.out];rfl,(bm.carry kR).ge (by omega),(bc.carry kR).ge (by omega)⟩,ax.row hC _⟩,az.row (.inl (aF4 _)) _⟩
theorem Jl {C:dV}{w:World}{i st ins:Nat}(h:PS C w i st ins 0) (kind:Nat) (aj:tx C.L (kH C.L gB i)=kIf) (ag:tx C.L (kH C.L gB i+1)=Q5):Calls Tryz.prog 224 #[.pointer (some ⟨C.rb,0,none⟩),.int .i64 kind] w (vU C (OkW C w st ins) w (uG C.L kind i)):=by
 have hC:=h.lts.1
 obtain ⟨cu,U⟩:=h.alloc (.cells Yt 273)
 have H0:(w.alloc (.cells Yt 273)).heap[w.heap.size]?=some (.cells Yt 273 (0,0)):=heap_alloc_new _ _
 have cg:∀f,Hid (times C.L (kH C.L gB i+2)=.error f)->Hid (cond C.L (kH C.L gB i)=.error f):=fun f hr=>by rw[Hid,Px.cond,if_pos aj,if_pos ag,hr.out]
 have cv:∀n f,Hid (times C.L (kH C.L gB i+2)=.ok n)->Hid (eP C.L (kH C.L gB i+3)=.error f)->Hid (cond C.L (kH C.L gB i)=.error f):=fun n f hr Z=>by rw[Hid,Px.cond,if_pos aj,if_pos ag,hr.out];simp only;rw[Z.out]
 have cn:∀n e j,Hid (times C.L (kH C.L gB i+2)=.ok n)->Hid (eP C.L (kH C.L gB i+3)=.ok (e,j))->Hid (cond C.L (kH C.L gB i)=.ok (n,e,j)):=fun n e j hr Z=>by rw[Hid,Px.cond,if_pos aj,if_pos ag,hr.out];simp only;rw[Z.out]
 have da:Hid _:=aj
 have cm:Hid _:=ag
 clear aj ag
 have T1:Hid True:=trivial
 have T2:Hid True:=trivial
 have T3:Hid True:=trivial
 have T4:Hid True:=trivial
 have T5:Hid True:=trivial
 go_enter Tryz.func224,Tryz.ntmps224
 go_wp2_with (first
  | (go_at_call 109;clear T1;refine (dS cu ⟨#[105,109,109,101,100,105,97,116,101]⟩ gB rfl (by decide)).mono ?_;rintro e w1 ⟨rfl,cb,s⟩;obtain ⟨b1,ap⟩:∃b1,Hid (b1=decide (tx C.L i=gB)):=⟨_,rfl⟩;rw[<-ap.out];have H1:=blk H0 hC s;obtain ⟨ck,bu⟩:=cb.alloc (.cells (oP kind 1 b1 (.pointer none) (.slice none 0 0) ⟨#[]⟩ false) 273);have H2:=blk H1 hC bu;have c:=cb.lts.1;have ab:w.heap.size≠w1.heap.size:=(by (have:=s.size;simp at this;omega));have K2:(w1.alloc (.cells (oP kind 1 b1 (.pointer none) (.slice none 0 0) ⟨#[]⟩ false) 273)).heap[w1.heap.size]?=some (.cells (oP kind 1 b1 (.pointer none) (.slice none 0 0) ⟨#[]⟩ false) 273 (0,0)):=heap_alloc_new _ _;have cx:=(U.up s).up bu)
  | (go_at_call 109;clear T2;refine (dM ck ⟨#[105,102]⟩ da.out (by decide)).mono ?_;rintro e w3 ⟨rfl,cz,ao⟩;have H3:=blk H2 hC ao;have K3:=blk K2 c ao;have ci:=cx.up ao;have dd:=ao.size)
  | (go_at_call 109;clear T3;refine (dM cz ⟨#[99,111,117,110,116]⟩ cm.out (by decide)).mono ?_;rintro e w4 ⟨rfl,cq,al⟩;have H4:=blk H3 hC al;have K4:=blk K3 c al;have cd:=ci.up al;have dc:=al.size)
  | (go_at_call 241;refine (Jw cq).mono ?_;rintro e w5 h5;rcases h5.cases with ⟨f,an,q,rfl,hq⟩|⟨n5,v5,an,rfl,⟨rfl,cy⟩,am⟩;(· exact ⟨rfl,by rw[xQ (cg _ an).out];exact aR.up cd ⟨q,rfl,hq⟩⟩);have H5:=blk H4 hC am;have K5:=blk K4 c am;obtain ⟨k3,z3⟩:=lU K5 3 _ rfl;obtain ⟨H6,K6⟩:=mS H5 K5 ab 3 (.int .i64 n5);have cf:=cy.put c 3 (.int .i64 n5);have bz:=(cd.up am).setCell (p:=⟨w1.heap.size,3,none⟩) (.inl ((U.up s).size)) (.int .i64 n5);have de:=am.size)
  | (go_at_call 226;refine (lN cf).mono ?_;rintro e w7 h7;rcases h7.cases with ⟨f,be,q,rfl,hq⟩|⟨⟨e7,j7⟩,v7,be,rfl,⟨bv,cj⟩,bk⟩;(· exact ⟨rfl,by rw[xQ (cv _ _ an be).out];exact aR.up bz ⟨q,rfl,hq⟩⟩);obtain ⟨p7,rfl⟩:=bv.ptr;have H7:=blk H6 hC bk;have K7:=blk K6 c bk;obtain ⟨k2,z2⟩:=lU K7 2 _ rfl;obtain ⟨HD,KD⟩:=mS H7 K7 ab 2 (.pointer p7);have ca:=cj.put c 2 (.pointer p7);have cc:=(bz.up bk).setCell (p:=⟨w1.heap.size,2,none⟩) (.inl ((U.up s).size)) (.pointer p7);have ch:=bv.ge (n:=w1.heap.size+1) (aB K6);have ce:=ch.carry (bA (by simp) (cU w7 w1.heap.size 2 (.pointer p7)))))
 have HC:=cn _ _ _ an be
 have k:∀x∈[C.rb],x<w1.heap.size+1:=by simp;omega
 by_cases hdo:tx C.L j7=kDo
 ·
  have Q:Hid _:=hdo
  go_wp2_with (first
   | (go_at_call 109;clear T4;refine (dM ca ⟨#[100,111]⟩ hdo (by decide)).mono ?_;rintro e x1 ⟨rfl,co,ae⟩;have M1:=blk HD hC ae;have N1:=blk KD c ae;have br:=cc.up ae;have cw:=ce.carry (bA k ae);have cp:=ae.size)
   | (go_at_call 225;refine (mW co).mono ?_;rintro e x2 h2;rcases h2.cases with ⟨f,Z,q,rfl,hq⟩|⟨⟨l2,m2⟩,v2,Z,rfl,⟨⟨db,bw⟩,-,ct⟩,ai⟩;(· exact ⟨rfl,by rw[xP HC.out (by rw[fR,if_pos Q.out];exact Z.out)];exact aR.up br ⟨q,rfl,hq⟩⟩);obtain ⟨O,cap2,rfl⟩:=aP bw.own;have M2:=blk M1 hC ai;have N2:=blk N1 c ai;obtain ⟨k4,z4⟩:=lU N2 4 _ rfl;obtain ⟨M3,N3⟩:=mS M2 N2 ab 4 (.slice O l2.length cap2);have bo:=ct.put c 4 (.slice O l2.length cap2);have ac:=(br.up ai).setCell (p:=⟨w1.heap.size,4,none⟩) (.inl ((U.up s).size)) (.slice O l2.length cap2);have bm:=(cw.carry (bA k ai)).carry (bA (by simp) (cU x2 w1.heap.size 4 (.slice O l2.length cap2)));have df:=ai.size;have bq:=(bw.done.ge (n:=w1.heap.size+1) (aB N1)).carry (bA (by simp) (cU x2 w1.heap.size 4 (.slice O l2.length cap2))))
   | (go_at_call 101;clear T5;refine (cD bo ⟨#[45,45,62]⟩ mE rfl (by decide)).mono ?_;rintro e x4 h4;rcases h4.cases with ⟨f,r,q,rfl,hq⟩|⟨_,v4,r,rfl,⟨rfl,bf⟩,y⟩;(· exact ⟨rfl,by rw[dG HC.out (by rw[fR,if_pos Q.out];exact Z.out),kO (aV r).1,<-(aV r).2];exact aR.up ac ⟨q,rfl,hq⟩⟩);have M4:=blk M3 hC y;have N4:=blk N3 c y;have ak:=ac.up y;have ay:=bm.carry (bA k y);have bi:=bq.carry (bA k y))
   | (go_at_call 102;refine (eZ bf).mono ?_;rintro e x5 h5;rcases h5.cases with ⟨f,l,q,rfl,hq⟩|⟨Y,cr,l,rfl,⟨rfl,bb⟩,D⟩;(· exact ⟨rfl,by rw[dG HC.out (by rw[fR,if_pos Q.out];exact Z.out),lY (bJ r) l.out];exact aR.up ak ⟨q,rfl,hq⟩⟩);rw[sv];have M5:=blk M4 hC D;have N5:=blk N4 c D;obtain ⟨k5,z5⟩:=lU N5 5 _ rfl;obtain ⟨M6,N6⟩:=mS M5 N5 ab 5 (.string ⟨Y.toArray⟩);have az:=bb.put c 5 (.string ⟨Y.toArray⟩);have bj:=(ak.up D).setCell (p:=⟨w1.heap.size,5,none⟩) (.inl ((U.up s).size)) (.string ⟨Y.toArray⟩);have ar:=(ay.carry (bA k D)).carry (bA (by simp) (cU x5 w1.heap.size 5 (.string ⟨Y.toArray⟩)));have au:=(bi.carry (bA k D)).carry (bA (by simp) (cU x5 w1.heap.size 5 (.string ⟨Y.toArray⟩))))
   | (go_at_call 109;refine (dS az ⟨#[104,105,115,116,111,114,121]⟩ fX rfl (by decide)).mono ?_;rintro e x7 ⟨rfl,av,I⟩;obtain ⟨u,ad⟩:∃u,Hid (u=decide (tx C.L (m2+2)=fX)):=⟨_,rfl⟩;rw[<-ad.out];have M7:=blk M6 hC I;have N7:=blk N6 c I;obtain ⟨k6,z6⟩:=lU N7 6 _ rfl;obtain ⟨M8,N8⟩:=mS M7 N7 ab 6 (.bool u);have bn:=av.put c 6 (.bool u);have af:=(bj.up I).setCell (p:=⟨w1.heap.size,6,none⟩) (.inl ((U.up s).size)) (.bool u);have aw:=(ar.carry (bA k I)).carry (bA (by simp) (cU x7 w1.heap.size 6 (.bool u)));have ax:=(au.carry (bA k I)).carry (bA (by simp) (cU x7 w1.heap.size 6 (.bool u))))
   | (go_at_call 101;refine (cD bn ⟨#[59]⟩ fE rfl (by decide)).mono ?_;rintro e x9 h9;rcases h9.cases with ⟨f,aa,q,rfl,hq⟩|⟨_,v9,aa,rfl,⟨rfl,ba⟩,J⟩;(· exact ⟨rfl,by rw[dG HC.out (by rw[fR,if_pos Q.out];exact Z.out),fK (bJ r) l.out,if_neg (aV aa).1,<-(aV aa).2];exact aR.up af ⟨q,rfl,hq⟩⟩);have M9:=blk M8 hC J;have N9:=blk N8 c J;have bc:=af.up J;have bp:=aw.carry (bA k J);have bh:=ax.carry (bA k J))
   | (refine bT rfl 273 (.tmp 5) rfl ⟨w1.heap.size,0,none⟩ rfl (.agg (oP kind n5 b1 (.pointer p7) (.slice O l2.length cap2) ⟨Y.toArray⟩ u)) (rX rfl N9) ?_)
   | (refine wpList_store_row rfl 273 (.tmp 4) (.tmp 35) rfl w.heap.size (oP kind n5 b1 (.pointer p7) (.slice O l2.length cap2) ⟨Y.toArray⟩ u) rfl rfl 273 _ M9 Tryz.size273 rfl (lZ _ _ _ _ _ _ _ _ _) ?_))
  refine aX5 (kS _ _ w.heap.size (oP kind n5 b1 (.pointer p7) (.slice O l2.length cap2) ⟨Y.toArray⟩ u) rfl rfl (setRow_heap _ _ _ _ _ _ M9)) rfl ?_
  rw[dG HC.out (by rw[fR,if_pos Q.out];exact Z.out),fK (bJ r) l.out,if_pos (bJ aa)]
  have hsz:=(U.up s).size
  have kR:bB (Ge (w1.heap.size+1)) (Ge (w1.heap.size+1)) x9 (x9.setRow w.heap.size (oP kind n5 b1 (.pointer p7) (.slice O l2.length cap2) ⟨Y.toArray⟩ u)):=bA (by simp;omega) (sC x9 w.heap.size (oP kind n5 b1 (.pointer p7) (.slice O l2.length cap2) ⟨Y.toArray⟩ u))
  exact ⟨_,rfl,⟨⟨(.pointer p7),(.slice O l2.length cap2),by rw[sM,<-ap.out,<-ad.out];rfl,(bp.carry kR).ge (by omega),(bh.carry kR).ge (by omega)⟩,ba.row hC _⟩,bc.row (.inl (aF4 _)) _⟩
 ·
  have Q:Hid _:=hdo
  go_wp2_with (first
   | (go_at_call 109;clear T4;refine (cN ca ⟨#[100,111]⟩ hdo).mono ?_;rintro e x3 ⟨rfl,bo,ah⟩;have M3:=blk HD hC ah.wide;have N3:=blk KD c ah.wide;have ac:=cc.up ah.wide;have bm:=ce.carry (bA (X:=[]) (by simp) ah);have bq:cJ (Ge (w1.heap.size+1)) x3 [] (.slice none 0 0):=sA _ _;have cp:=ah.size)
   | (go_at_call 101;clear T5;refine (cD bo ⟨#[45,45,62]⟩ mE rfl (by decide)).mono ?_;rintro e x4 h4;rcases h4.cases with ⟨f,r,q,rfl,hq⟩|⟨_,v4,r,rfl,⟨rfl,bf⟩,y⟩;(· exact ⟨rfl,by rw[dG HC.out (by rw[fR,if_neg Q.out]),kO (aV r).1,<-(aV r).2];exact aR.up ac ⟨q,rfl,hq⟩⟩);have M4:=blk M3 hC y;have N4:=blk N3 c y;have ak:=ac.up y;have ay:=bm.carry (bA k y);have bi:=bq.carry (bA k y))
   | (go_at_call 102;refine (eZ bf).mono ?_;rintro e x5 h5;rcases h5.cases with ⟨f,l,q,rfl,hq⟩|⟨Y,cr,l,rfl,⟨rfl,bb⟩,D⟩;(· exact ⟨rfl,by rw[dG HC.out (by rw[fR,if_neg Q.out]),lY (bJ r) l.out];exact aR.up ak ⟨q,rfl,hq⟩⟩);rw[sv];have M5:=blk M4 hC D;have N5:=blk N4 c D;obtain ⟨k5,z5⟩:=lU N5 5 _ rfl;obtain ⟨M6,N6⟩:=mS M5 N5 ab 5 (.string ⟨Y.toArray⟩);have az:=bb.put c 5 (.string ⟨Y.toArray⟩);have bj:=(ak.up D).setCell (p:=⟨w1.heap.size,5,none⟩) (.inl ((U.up s).size)) (.string ⟨Y.toArray⟩);have ar:=(ay.carry (bA k D)).carry (bA (by simp) (cU x5 w1.heap.size 5 (.string ⟨Y.toArray⟩)));have au:=(bi.carry (bA k D)).carry (bA (by simp) (cU x5 w1.heap.size 5 (.string ⟨Y.toArray⟩))))
   | (go_at_call 109;refine (dS az ⟨#[104,105,115,116,111,114,121]⟩ fX rfl (by decide)).mono ?_;rintro e x7 ⟨rfl,av,I⟩;obtain ⟨u,ad⟩:∃u,Hid (u=decide (tx C.L (j7+2)=fX)):=⟨_,rfl⟩;rw[<-ad.out];have M7:=blk M6 hC I;have N7:=blk N6 c I;obtain ⟨k6,z6⟩:=lU N7 6 _ rfl;obtain ⟨M8,N8⟩:=mS M7 N7 ab 6 (.bool u);have bn:=av.put c 6 (.bool u);have af:=(bj.up I).setCell (p:=⟨w1.heap.size,6,none⟩) (.inl ((U.up s).size)) (.bool u);have aw:=(ar.carry (bA k I)).carry (bA (by simp) (cU x7 w1.heap.size 6 (.bool u)));have ax:=(au.carry (bA k I)).carry (bA (by simp) (cU x7 w1.heap.size 6 (.bool u))))
   | (go_at_call 101;refine (cD bn ⟨#[59]⟩ fE rfl (by decide)).mono ?_;rintro e x9 h9;rcases h9.cases with ⟨f,aa,q,rfl,hq⟩|⟨_,v9,aa,rfl,⟨rfl,ba⟩,J⟩;(· exact ⟨rfl,by rw[dG HC.out (by rw[fR,if_neg Q.out]),fK (bJ r) l.out,if_neg (aV aa).1,<-(aV aa).2];exact aR.up af ⟨q,rfl,hq⟩⟩);have M9:=blk M8 hC J;have N9:=blk N8 c J;have bc:=af.up J;have bp:=aw.carry (bA k J);have bh:=ax.carry (bA k J))
   | (refine bT rfl 273 (.tmp 5) rfl ⟨w1.heap.size,0,none⟩ rfl (.agg (oP kind n5 b1 (.pointer p7) (.slice none 0 0) ⟨Y.toArray⟩ u)) (rX rfl N9) ?_)
   | (refine wpList_store_row rfl 273 (.tmp 4) (.tmp 35) rfl w.heap.size (oP kind n5 b1 (.pointer p7) (.slice none 0 0) ⟨Y.toArray⟩ u) rfl rfl 273 _ M9 Tryz.size273 rfl (lZ _ _ _ _ _ _ _ _ _) ?_))
  refine aX5 (kS _ _ w.heap.size (oP kind n5 b1 (.pointer p7) (.slice none 0 0) ⟨Y.toArray⟩ u) rfl rfl (setRow_heap _ _ _ _ _ _ M9)) rfl ?_
  rw[dG HC.out (by rw[fR,if_neg Q.out]),fK (bJ r) l.out,if_pos (bJ aa)]
  have hsz:=(U.up s).size
  have kR:bB (Ge (w1.heap.size+1)) (Ge (w1.heap.size+1)) x9 (x9.setRow w.heap.size (oP kind n5 b1 (.pointer p7) (.slice none 0 0) ⟨Y.toArray⟩ u)):=bA (by simp;omega) (sC x9 w.heap.size (oP kind n5 b1 (.pointer p7) (.slice none 0 0) ⟨Y.toArray⟩ u))
  exact ⟨_,rfl,⟨⟨(.pointer p7),(.slice none 0 0),by rw[sM,<-ap.out,<-ad.out];rfl,(bp.carry kR).ge (by omega),(bh.carry kR).ge (by omega)⟩,ba.row hC _⟩,bc.row (.inl (aF4 _)) _⟩
theorem Vs {C:dV}{w:World}{i st ins:Nat}(h:PS C w i st ins 0) (kind:Nat):Calls Tryz.prog 224 #[.pointer (some ⟨C.rb,0,none⟩),.int .i64 kind] w (vU C (OkW C w st ins) w (uG C.L kind i)):=by
 by_cases hif:tx C.L (kH C.L gB i)=kIf
 ·by_cases hco:tx C.L (kH C.L gB i+1)=Q5
  ·exact Jl h kind hif hco
  ·exact aA1 h kind hif hco
 ·exact Oj h kind hif
end Go.Proofs.YthieaobjdpfcoaaGreatDoor
