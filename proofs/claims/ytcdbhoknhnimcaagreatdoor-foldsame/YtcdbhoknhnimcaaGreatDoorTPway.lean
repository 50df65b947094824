import Derived.Test.YtcdbhoknhnimcaaGreatDoorTPvar
set_option maxRecDepth 100000
set_option maxHeartbeats 8000000
namespace Go.Proofs.YtcdbhoknhnimcaaGreatDoor
open Go.RowKit Px
theorem aY {n:Nat}{X:List Nat}{w w':World}(hX:∀x∈X,x<n) (hf:Fr w.heap.size X w w'):aX (Ge n) (Ge n) w w':=hf.keep (fun b hb hm=>by have:=hX b hm;simp[Ge] at hb;omega)
theorem aC7 {B e size n:Nat}{X:List Nat}{v:Value}{xs:List Value}{w w':World}(h:w.ownsRow B e size v n xs) (hX:∀x∈X,x<B) (hf:Fr w.heap.size X w w'):w'.ownsRow B e size v n xs:=by
 refine ⟨h.1,?_⟩
 rcases h.2 with hn|⟨g,cap,cur,rfl,hb,hgg,rest⟩
 ·exact .inl hn
 ·exact .inr ⟨g,cap,cur,rfl,hb,by rw[hf.block g (aB hgg) (fun hm=>by have:=hX g hm;omega)];exact hgg,rest⟩
theorem cP (w:World) (b o:Nat) (v:Value):Fr w.heap.size [b] w (w.setCell ⟨b,o,none⟩ v):=(Fr.refl _ _ _).setCell (p:=⟨b,o,none⟩) (.inr (by simp)) v
theorem rI (w:World) (b:Nat) (cs:Array Value):Fr w.heap.size [b] w (w.setRow b cs):=(Fr.refl _ _ _).row (.inr (by simp)) cs
theorem cE.ge {n m:Nat}{w:World}{l:List iQ}{v:Value}(h:cE (Ge m) w l v) (hn:n≤m):cE (Ge n) w l v:=h.carry (fun _ hb _=>⟨Nat.le_trans hn hb,rfl⟩)
theorem rH (A:Nat->Prop) (w:World):cE A w [] (.slice none 0 0):=⟨[],⟨World.ownsRow_nil _ _ _ _,fun g hg=>by simp[Value.ownBlock] at hg⟩,rfl⟩
def wI (L:List Lx.fK) (kind i n:Nat) (e:E) (l:List iQ) (m:Nat):Except F (Wy×Nat):=
 if tx L m=lR then
  match nm L (m+1) with
  | .error x=>.error x
  | .ok s=>
   if tx L (jU L fS (m+2))=eS then .ok (⟨kind,decide (tx L i=fW),e,n,l,s,decide (tx L (m+2)=fS)⟩,jU L fS (m+2)+1)
   else .error (3,pl L (jU L fS (m+2)))
 else .error (3,pl L m)
theorem vX {L:List Lx.fK}{kind i:Nat}{f:F}(h:cond L (jU L fW i)=.error f):sX L kind i=.error f:=by rw[sX,h]
theorem vW {L:List Lx.fK}{kind i n j:Nat}{e:E}{f:F}(h:cond L (jU L fW i)=.ok (n,e,j)) (h2:fN L j=.error f):sX L kind i=.error f:=by rw[sX,h];simp only;rw[h2]
theorem dE {L:List Lx.fK}{kind i n j m:Nat}{e:E}{l:List iQ}(h:cond L (jU L fW i)=.ok (n,e,j)) (h2:fN L j=.ok (l,m)):sX L kind i=wI L kind i n e l m:=by rw[sX,h];simp only;rw[h2];simp only;rw[wI];split<;>rfl
theorem jX {L:List Lx.fK}{kind i n m:Nat}{e:E}{l:List iQ}(h:tx L m≠lR):wI L kind i n e l m=.error (3,pl L m):=if_neg h
theorem lL {L:List Lx.fK}{kind i n m:Nat}{e:E}{l:List iQ}{f:F}(h:tx L m=lR) (h2:nm L (m+1)=.error f):wI L kind i n e l m=.error f:=by rw[wI,if_pos h,h2]
theorem eZ {L:List Lx.fK}{kind i n m:Nat}{e:E}{l:List iQ}{s:bB}(h:tx L m=lR) (h2:nm L (m+1)=.ok s):wI L kind i n e l m=if tx L (jU L fS (m+2))=eS then .ok (⟨kind,decide (tx L i=fW),e,n,l,s,decide (tx L (m+2)=fS)⟩,jU L fS (m+2)+1) else .error (3,pl L (jU L fS (m+2))):=by rw[wI,if_pos h,h2]
theorem Tryz.size301:(Tryz.prog.info? 301).map (·.size)=some 7:=by kernel_rfl
theorem rE {W:World}{g:Nat}{fc:Array Value}(hsz:fc.size=7) (hg:W.heap[g]?=some (.cells fc 301 (0,0))):(loadVar 301 ⟨g,0,none⟩).run Tryz.prog W=.ok (.agg fc) W:=
 run_loadVar_row (P:=Tryz.prog) W g 301 301 fc (0,0) _ hg Tryz.underlying301 rfl (by rw[hsz];exact Tryz.size301)
theorem jZ (tmps:Array Value) (W:World) (g:Nat) (fc:Array Value) (hsz:fc.size=7) (hp:tmps.getD 4 undef=.pointer (some ⟨g,0,none⟩)) (hg:W.heap[g]?=some (.cells fc 301 (0,0))) :
    (results Tryz.f252 tmps).run Tryz.prog W=.ok (.agg fc) W:=by
 have hp':tmps[4]?.getD undef=.pointer (some ⟨g,0,none⟩):=by simpa using hp
 simp[results,Tryz.results252,hp',asAddr,rE hsz hg]
theorem lM (a n:Int) (b c:Bool) (p:Option Addr) (ao:Option Addr) (x y:Nat) (s:ByteArray):(#[Value.int .i64 a,.bool b,.pointer p,.int .i64 n,.slice ao x y,.string s,.bool c]:Array Value).all (·.oneCell')=true:=by simp[Value.oneCell']
def rN (a:Wy) (p q:Value):Array Value:=#[.int .i64 a.kind,.bool a.now,p,.int .i64 a.times,q,sv a.to,.bool a.back]
def OkW (C:dT) (w:World) (st ins:Nat) (x:Wy×Nat) (v:Value) (w':World):Prop:=(∃p q,v=.agg (rN x.1 p q)/\jI (Ge w.heap.size) w' x.1.cond p/\cE (Ge w.heap.size) w' x.1.sets q)/\PS C w' x.2 st ins 0
abbrev Wo:Array Value:=#[.int .i64 0,.bool false,.pointer none,.int .i64 0,.slice none 0 0,.string ⟨#[]⟩,.bool false]
abbrev nU (kind n:Int) (b:Bool) (p q:Value) (s:ByteArray) (c:Bool):Array Value:=#[.int .i64 kind,.bool b,p,.int .i64 n,q,.string s,.bool c]
theorem Lz {C:dT}{w:World}{i st ins:Nat}(h:PS C w i st ins 0) (kind:Nat) (hif:tx C.L (jU C.L fW i)≠kIf):Calls Tryz.prog 252 #[.pointer (some ⟨C.rb,0,none⟩),.int .i64 kind] w (uJ C (OkW C w st ins) w (sX C.L kind i)):=by
 have hC:=h.lts.1
 obtain ⟨hp0,hf0⟩:=h.alloc (.cells Wo 301)
 have H0:(w.alloc (.cells Wo 301)).heap[w.heap.size]?=some (.cells Wo 301 (0,0)):=heap_alloc_new _ _
 have HC:Hid (cond C.L (jU C.L fW i)=.ok (1,.nil,jU C.L fW i)):=if_neg hif
 have HIF:Hid _:=hif
 clear hif
 have T1:Hid True:=trivial
 have T2:Hid True:=trivial
 have T3:Hid True:=trivial
 have T4:Hid True:=trivial
 have T5:Hid True:=trivial
 go_enter Tryz.func252,Tryz.ntmps252
 go_wp2_with (first
  | (go_at_call 140;clear T1;refine (dQ hp0 ⟨#[105,109,109,101,100,105,97,116,101]⟩ fW rfl (by decide)).mono ?_;rintro e w1 ⟨rfl,hp1,hf1⟩;obtain ⟨b1,hb1⟩:∃b1,Hid (b1=decide (tx C.L i=fW)):=⟨_,rfl⟩;rw[<-hb1.out];have H1:=blk H0 hC hf1;obtain ⟨hp2,hf2⟩:=hp1.alloc (.cells (nU kind 1 b1 (.pointer none) (.slice none 0 0) ⟨#[]⟩ false) 301);have H2:=blk H1 hC hf2;have hc1:=hp1.lts.1;have hne:w.heap.size≠w1.heap.size:=(by (have:=hf1.size;simp at this;omega));have K2:(w1.alloc (.cells (nU kind 1 b1 (.pointer none) (.slice none 0 0) ⟨#[]⟩ false) 301)).heap[w1.heap.size]?=some (.cells (nU kind 1 b1 (.pointer none) (.slice none 0 0) ⟨#[]⟩ false) 301 (0,0)):=heap_alloc_new _ _;have hF2:=(hf0.up hf1).up hf2)
  | (go_at_call 140;clear T2;refine (cG hp2 ⟨#[105,102]⟩ HIF.out).mono ?_;rintro e w3 ⟨rfl,hp3,hf3⟩;have H3:=blk H2 hC hf3.wide;have K3:=blk K2 hc1 hf3.wide;have hF3:=hF2.up hf3.wide;have hs3:=hf3.size))
 have hpD:=hp3
 have HD:=H3
 have KD:=K3
 have hFD:=hF3
 have hvD:jI (Ge (w1.heap.size+1)) w3 .nil (.pointer none):=rfl
 have hX1:∀x∈[C.rb],x<w1.heap.size+1:=by simp;omega
 by_cases hdo:tx C.L (jU C.L fW i)=kDo
 ·
  have HDO:Hid _:=hdo
  go_wp2_with (first
   | (go_at_call 140;clear T4;refine (dM hpD ⟨#[100,111]⟩ hdo (by decide)).mono ?_;rintro e x1 ⟨rfl,hq1,hg1⟩;have M1:=blk HD hC hg1;have N1:=blk KD hc1 hg1;have hG1:=hFD.up hg1;have hu1:=hvD.carry (aY hX1 hg1);have hs1:=hg1.size)
   | (go_at_call 253;refine (mJ hq1).mono ?_;rintro e x2 h2;rcases h2.cases with ⟨f,hr2,q,rfl,hq⟩|⟨⟨l2,m2⟩,v2,hr2,rfl,⟨⟨xs2,hS2⟩,-,hq2⟩,hg2⟩;(· exact ⟨rfl,by rw[vW HC.out (by rw[fN,if_pos HDO.out];exact hr2.out)];exact aP.up hG1 ⟨q,rfl,hq⟩⟩);obtain ⟨ao2,cap2,rfl⟩:=aJ hS2.own;have M2:=blk M1 hC hg2;have N2:=blk N1 hc1 hg2;obtain ⟨k4,z4⟩:=lG N2 4 _ rfl;obtain ⟨M3,N3⟩:=mF M2 N2 hne 4 (.slice ao2 l2.length cap2);have hq3:=hq2.put hc1 4 (.slice ao2 l2.length cap2);have hG3:=(hG1.up hg2).setCell (p:=⟨w1.heap.size,4,none⟩) (.inl ((hf0.up hf1).size)) (.slice ao2 l2.length cap2);have hu3:=(hu1.carry (aY hX1 hg2)).carry (aY (by simp) (cP x2 w1.heap.size 4 (.slice ao2 l2.length cap2)));have hs2:=hg2.size;have hd3:=(hS2.done.ge (n:=w1.heap.size+1) (aB N1)).carry (aY (by simp) (cP x2 w1.heap.size 4 (.slice ao2 l2.length cap2))))
   | (go_at_call 132;clear T5;refine (bT hq3 ⟨#[45,45,62]⟩ lR rfl (by decide)).mono ?_;rintro e x4 h4;rcases h4.cases with ⟨f,hr4,q,rfl,hq⟩|⟨_,v4,hr4,rfl,⟨rfl,hq4⟩,hg4⟩;(· exact ⟨rfl,by rw[dE HC.out (by rw[fN,if_pos HDO.out];exact hr2.out),jX (aR hr4).1,<-(aR hr4).2];exact aP.up hG3 ⟨q,rfl,hq⟩⟩);have M4:=blk M3 hC hg4;have N4:=blk N3 hc1 hg4;have hG4:=hG3.up hg4;have hu4:=hu3.carry (aY hX1 hg4);have hd4:=hd3.carry (aY hX1 hg4))
   | (go_at_call 133;refine (eR hq4).mono ?_;rintro e x5 h5;rcases h5.cases with ⟨f,hr5',q,rfl,hq⟩|⟨s5,v5',hr5',rfl,⟨rfl,hq5⟩,hg5⟩;(· exact ⟨rfl,by rw[dE HC.out (by rw[fN,if_pos HDO.out];exact hr2.out),lL (bF hr4) hr5'.out];exact aP.up hG4 ⟨q,rfl,hq⟩⟩);rw[sv];have M5:=blk M4 hC hg5;have N5:=blk N4 hc1 hg5;obtain ⟨k5,z5⟩:=lG N5 5 _ rfl;obtain ⟨M6,N6⟩:=mF M5 N5 hne 5 (.string ⟨s5.toArray⟩);have hq6:=hq5.put hc1 5 (.string ⟨s5.toArray⟩);have hG6:=(hG4.up hg5).setCell (p:=⟨w1.heap.size,5,none⟩) (.inl ((hf0.up hf1).size)) (.string ⟨s5.toArray⟩);have hu6:=(hu4.carry (aY hX1 hg5)).carry (aY (by simp) (cP x5 w1.heap.size 5 (.string ⟨s5.toArray⟩)));have hd6:=(hd4.carry (aY hX1 hg5)).carry (aY (by simp) (cP x5 w1.heap.size 5 (.string ⟨s5.toArray⟩))))
   | (go_at_call 140;refine (dQ hq6 ⟨#[104,105,115,116,111,114,121]⟩ fS rfl (by decide)).mono ?_;rintro e x7 ⟨rfl,hq7,hg7⟩;obtain ⟨b7,hb7⟩:∃b7,Hid (b7=decide (tx C.L (m2+2)=fS)):=⟨_,rfl⟩;rw[<-hb7.out];have M7:=blk M6 hC hg7;have N7:=blk N6 hc1 hg7;obtain ⟨k6,z6⟩:=lG N7 6 _ rfl;obtain ⟨M8,N8⟩:=mF M7 N7 hne 6 (.bool b7);have hq8:=hq7.put hc1 6 (.bool b7);have hG8:=(hG6.up hg7).setCell (p:=⟨w1.heap.size,6,none⟩) (.inl ((hf0.up hf1).size)) (.bool b7);have hu8:=(hu6.carry (aY hX1 hg7)).carry (aY (by simp) (cP x7 w1.heap.size 6 (.bool b7)));have hd8:=(hd6.carry (aY hX1 hg7)).carry (aY (by simp) (cP x7 w1.heap.size 6 (.bool b7))))
   | (go_at_call 132;refine (bT hq8 ⟨#[59]⟩ eS rfl (by decide)).mono ?_;rintro e x9 h9;rcases h9.cases with ⟨f,hr9,q,rfl,hq⟩|⟨_,v9,hr9,rfl,⟨rfl,hq9⟩,hg9⟩;(· exact ⟨rfl,by rw[dE HC.out (by rw[fN,if_pos HDO.out];exact hr2.out),eZ (bF hr4) hr5'.out,if_neg (aR hr9).1,<-(aR hr9).2];exact aP.up hG8 ⟨q,rfl,hq⟩⟩);have M9:=blk M8 hC hg9;have N9:=blk N8 hc1 hg9;have hG9:=hG8.up hg9;have hu9:=hu8.carry (aY hX1 hg9);have hd9:=hd8.carry (aY hX1 hg9))
   | (refine bP rfl 301 (.tmp 5) rfl ⟨w1.heap.size,0,none⟩ rfl (.agg (nU kind 1 b1 (.pointer none) (.slice ao2 l2.length cap2) ⟨s5.toArray⟩ b7)) (rE rfl N9) ?_)
   | (refine wpList_store_row rfl 301 (.tmp 4) (.tmp 35) rfl w.heap.size (nU kind 1 b1 (.pointer none) (.slice ao2 l2.length cap2) ⟨s5.toArray⟩ b7) rfl rfl 301 _ M9 Tryz.size301 rfl (lM _ _ _ _ _ _ _ _ _) ?_))
  refine bodyPost_ret (jZ _ _ w.heap.size (nU kind 1 b1 (.pointer none) (.slice ao2 l2.length cap2) ⟨s5.toArray⟩ b7) rfl rfl (setRow_heap _ _ _ _ _ _ M9)) rfl ?_
  rw[dE HC.out (by rw[fN,if_pos HDO.out];exact hr2.out),eZ (bF hr4) hr5'.out,if_pos (bF hr9)]
  have hsz:=(hf0.up hf1).size
  have kR:aX (Ge (w1.heap.size+1)) (Ge (w1.heap.size+1)) x9 (x9.setRow w.heap.size (nU kind 1 b1 (.pointer none) (.slice ao2 l2.length cap2) ⟨s5.toArray⟩ b7)):=aY (by simp;omega) (rI x9 w.heap.size (nU kind 1 b1 (.pointer none) (.slice ao2 l2.length cap2) ⟨s5.toArray⟩ b7))
  exact ⟨_,rfl,⟨⟨(.pointer none),(.slice ao2 l2.length cap2),by rw[rN,<-hb1.out,<-hb7.out];rfl,(hu9.carry kR).ge (by omega),(hd9.carry kR).ge (by omega)⟩,hq9.row hC _⟩,hG9.row (.inl (Nat.le_refl _)) _⟩
 ·
  have HDO:Hid _:=hdo
  go_wp2_with (first
   | (go_at_call 140;clear T4;refine (cG hpD ⟨#[100,111]⟩ hdo).mono ?_;rintro e x3 ⟨rfl,hq3,hg3⟩;have M3:=blk HD hC hg3.wide;have N3:=blk KD hc1 hg3.wide;have hG3:=hFD.up hg3.wide;have hu3:=hvD.carry (aY (X:=[]) (by simp) hg3);have hd3:cE (Ge (w1.heap.size+1)) x3 [] (.slice none 0 0):=rH _ _;have hs1:=hg3.size)
   | (go_at_call 132;clear T5;refine (bT hq3 ⟨#[45,45,62]⟩ lR rfl (by decide)).mono ?_;rintro e x4 h4;rcases h4.cases with ⟨f,hr4,q,rfl,hq⟩|⟨_,v4,hr4,rfl,⟨rfl,hq4⟩,hg4⟩;(· exact ⟨rfl,by rw[dE HC.out (by rw[fN,if_neg HDO.out]),jX (aR hr4).1,<-(aR hr4).2];exact aP.up hG3 ⟨q,rfl,hq⟩⟩);have M4:=blk M3 hC hg4;have N4:=blk N3 hc1 hg4;have hG4:=hG3.up hg4;have hu4:=hu3.carry (aY hX1 hg4);have hd4:=hd3.carry (aY hX1 hg4))
   | (go_at_call 133;refine (eR hq4).mono ?_;rintro e x5 h5;rcases h5.cases with ⟨f,hr5',q,rfl,hq⟩|⟨s5,v5',hr5',rfl,⟨rfl,hq5⟩,hg5⟩;(· exact ⟨rfl,by rw[dE HC.out (by rw[fN,if_neg HDO.out]),lL (bF hr4) hr5'.out];exact aP.up hG4 ⟨q,rfl,hq⟩⟩);rw[sv];have M5:=blk M4 hC hg5;have N5:=blk N4 hc1 hg5;obtain ⟨k5,z5⟩:=lG N5 5 _ rfl;obtain ⟨M6,N6⟩:=mF M5 N5 hne 5 (.string ⟨s5.toArray⟩);have hq6:=hq5.put hc1 5 (.string ⟨s5.toArray⟩);have hG6:=(hG4.up hg5).setCell (p:=⟨w1.heap.size,5,none⟩) (.inl ((hf0.up hf1).size)) (.string ⟨s5.toArray⟩);have hu6:=(hu4.carry (aY hX1 hg5)).carry (aY (by simp) (cP x5 w1.heap.size 5 (.string ⟨s5.toArray⟩)));have hd6:=(hd4.carry (aY hX1 hg5)).carry (aY (by simp) (cP x5 w1.heap.size 5 (.string ⟨s5.toArray⟩))))
   | (go_at_call 140;refine (dQ hq6 ⟨#[104,105,115,116,111,114,121]⟩ fS rfl (by decide)).mono ?_;rintro e x7 ⟨rfl,hq7,hg7⟩;obtain ⟨b7,hb7⟩:∃b7,Hid (b7=decide (tx C.L ((jU C.L fW i)+2)=fS)):=⟨_,rfl⟩;rw[<-hb7.out];have M7:=blk M6 hC hg7;have N7:=blk N6 hc1 hg7;obtain ⟨k6,z6⟩:=lG N7 6 _ rfl;obtain ⟨M8,N8⟩:=mF M7 N7 hne 6 (.bool b7);have hq8:=hq7.put hc1 6 (.bool b7);have hG8:=(hG6.up hg7).setCell (p:=⟨w1.heap.size,6,none⟩) (.inl ((hf0.up hf1).size)) (.bool b7);have hu8:=(hu6.carry (aY hX1 hg7)).carry (aY (by simp) (cP x7 w1.heap.size 6 (.bool b7)));have hd8:=(hd6.carry (aY hX1 hg7)).carry (aY (by simp) (cP x7 w1.heap.size 6 (.bool b7))))
   | (go_at_call 132;refine (bT hq8 ⟨#[59]⟩ eS rfl (by decide)).mono ?_;rintro e x9 h9;rcases h9.cases with ⟨f,hr9,q,rfl,hq⟩|⟨_,v9,hr9,rfl,⟨rfl,hq9⟩,hg9⟩;(· exact ⟨rfl,by rw[dE HC.out (by rw[fN,if_neg HDO.out]),eZ (bF hr4) hr5'.out,if_neg (aR hr9).1,<-(aR hr9).2];exact aP.up hG8 ⟨q,rfl,hq⟩⟩);have M9:=blk M8 hC hg9;have N9:=blk N8 hc1 hg9;have hG9:=hG8.up hg9;have hu9:=hu8.carry (aY hX1 hg9);have hd9:=hd8.carry (aY hX1 hg9))
   | (refine bP rfl 301 (.tmp 5) rfl ⟨w1.heap.size,0,none⟩ rfl (.agg (nU kind 1 b1 (.pointer none) (.slice none 0 0) ⟨s5.toArray⟩ b7)) (rE rfl N9) ?_)
   | (refine wpList_store_row rfl 301 (.tmp 4) (.tmp 35) rfl w.heap.size (nU kind 1 b1 (.pointer none) (.slice none 0 0) ⟨s5.toArray⟩ b7) rfl rfl 301 _ M9 Tryz.size301 rfl (lM _ _ _ _ _ _ _ _ _) ?_))
  refine bodyPost_ret (jZ _ _ w.heap.size (nU kind 1 b1 (.pointer none) (.slice none 0 0) ⟨s5.toArray⟩ b7) rfl rfl (setRow_heap _ _ _ _ _ _ M9)) rfl ?_
  rw[dE HC.out (by rw[fN,if_neg HDO.out]),eZ (bF hr4) hr5'.out,if_pos (bF hr9)]
  have hsz:=(hf0.up hf1).size
  have kR:aX (Ge (w1.heap.size+1)) (Ge (w1.heap.size+1)) x9 (x9.setRow w.heap.size (nU kind 1 b1 (.pointer none) (.slice none 0 0) ⟨s5.toArray⟩ b7)):=aY (by simp;omega) (rI x9 w.heap.size (nU kind 1 b1 (.pointer none) (.slice none 0 0) ⟨s5.toArray⟩ b7))
  exact ⟨_,rfl,⟨⟨(.pointer none),(.slice none 0 0),by rw[rN,<-hb1.out,<-hb7.out];rfl,(hu9.carry kR).ge (by omega),(hd9.carry kR).ge (by omega)⟩,hq9.row hC _⟩,hG9.row (.inl (Nat.le_refl _)) _⟩
theorem Xx {C:dT}{w:World}{i st ins:Nat}(h:PS C w i st ins 0) (kind:Nat) (hif:tx C.L (jU C.L fW i)=kIf) (hco:tx C.L (jU C.L fW i+1)≠F9):Calls Tryz.prog 252 #[.pointer (some ⟨C.rb,0,none⟩),.int .i64 kind] w (uJ C (OkW C w st ins) w (sX C.L kind i)):=by
 have hC:=h.lts.1
 obtain ⟨hp0,hf0⟩:=h.alloc (.cells Wo 301)
 have H0:(w.alloc (.cells Wo 301)).heap[w.heap.size]?=some (.cells Wo 301 (0,0)):=heap_alloc_new _ _
 have HA1:∀f,Hid (eK C.L (jU C.L fW i+1)=.error f)->Hid (cond C.L (jU C.L fW i)=.error f):=fun f hr=>by rw[Hid,Px.cond,if_pos hif,if_neg hco,hr.out]
 have HA2:∀e j,Hid (eK C.L (jU C.L fW i+1)=.ok (e,j))->Hid (cond C.L (jU C.L fW i)=.ok (1,e,j)):=fun e j hr=>by rw[Hid,Px.cond,if_pos hif,if_neg hco,hr.out]
 have HIF:Hid _:=hif
 have HCO:Hid _:=hco
 clear hif hco
 have T1:Hid True:=trivial
 have T2:Hid True:=trivial
 have T3:Hid True:=trivial
 have T4:Hid True:=trivial
 have T5:Hid True:=trivial
 go_enter Tryz.func252,Tryz.ntmps252
 go_wp2_with (first
  | (go_at_call 140;clear T1;refine (dQ hp0 ⟨#[105,109,109,101,100,105,97,116,101]⟩ fW rfl (by decide)).mono ?_;rintro e w1 ⟨rfl,hp1,hf1⟩;obtain ⟨b1,hb1⟩:∃b1,Hid (b1=decide (tx C.L i=fW)):=⟨_,rfl⟩;rw[<-hb1.out];have H1:=blk H0 hC hf1;obtain ⟨hp2,hf2⟩:=hp1.alloc (.cells (nU kind 1 b1 (.pointer none) (.slice none 0 0) ⟨#[]⟩ false) 301);have H2:=blk H1 hC hf2;have hc1:=hp1.lts.1;have hne:w.heap.size≠w1.heap.size:=(by (have:=hf1.size;simp at this;omega));have K2:(w1.alloc (.cells (nU kind 1 b1 (.pointer none) (.slice none 0 0) ⟨#[]⟩ false) 301)).heap[w1.heap.size]?=some (.cells (nU kind 1 b1 (.pointer none) (.slice none 0 0) ⟨#[]⟩ false) 301 (0,0)):=heap_alloc_new _ _;have hF2:=(hf0.up hf1).up hf2)
  | (go_at_call 140;clear T2;refine (dM hp2 ⟨#[105,102]⟩ HIF.out (by decide)).mono ?_;rintro e w3 ⟨rfl,hp3,hf3⟩;have H3:=blk H2 hC hf3;have K3:=blk K2 hc1 hf3;have hF3:=hF2.up hf3;have hs3:=hf3.size)
  | (go_at_call 140;clear T3;refine (cG hp3 ⟨#[99,111,117,110,116]⟩ HCO.out).mono ?_;rintro e w4 ⟨rfl,hp4,hf4⟩;have H4:=blk H3 hC hf4.wide;have K4:=blk K3 hc1 hf4.wide;have hF4:=hF3.up hf4.wide;have hs4:=hf4.size)
  | (go_at_call 254;refine (kS hp4).mono ?_;rintro e w7 h7;rcases h7.cases with ⟨f,hr7,q,rfl,hq⟩|⟨⟨e7,j7⟩,v7,hr7,rfl,⟨hv7,hp7⟩,hf7⟩;(· exact ⟨rfl,by rw[vX (HA1 _ hr7).out];exact aP.up hF4 ⟨q,rfl,hq⟩⟩);obtain ⟨p7,rfl⟩:=hv7.ptr;have H7:=blk H4 hC hf7;have K7:=blk K4 hc1 hf7;obtain ⟨k2,z2⟩:=lG K7 2 _ rfl;obtain ⟨HD,KD⟩:=mF H7 K7 hne 2 (.pointer p7);have hpD:=hp7.put hc1 2 (.pointer p7);have hFD:=(hF4.up hf7).setCell (p:=⟨w1.heap.size,2,none⟩) (.inl ((hf0.up hf1).size)) (.pointer p7);have hv8:=hv7.ge (n:=w1.heap.size+1) (aB K4);have hvD:=hv8.carry (aY (by simp) (cP w7 w1.heap.size 2 (.pointer p7)))))
 have HC:=HA2 _ _ hr7
 have hX1:∀x∈[C.rb],x<w1.heap.size+1:=by simp;omega
 by_cases hdo:tx C.L j7=kDo
 ·
  have HDO:Hid _:=hdo
  go_wp2_with (first
   | (go_at_call 140;clear T4;refine (dM hpD ⟨#[100,111]⟩ hdo (by decide)).mono ?_;rintro e x1 ⟨rfl,hq1,hg1⟩;have M1:=blk HD hC hg1;have N1:=blk KD hc1 hg1;have hG1:=hFD.up hg1;have hu1:=hvD.carry (aY hX1 hg1);have hs1:=hg1.size)
   | (go_at_call 253;refine (mJ hq1).mono ?_;rintro e x2 h2;rcases h2.cases with ⟨f,hr2,q,rfl,hq⟩|⟨⟨l2,m2⟩,v2,hr2,rfl,⟨⟨xs2,hS2⟩,-,hq2⟩,hg2⟩;(· exact ⟨rfl,by rw[vW HC.out (by rw[fN,if_pos HDO.out];exact hr2.out)];exact aP.up hG1 ⟨q,rfl,hq⟩⟩);obtain ⟨ao2,cap2,rfl⟩:=aJ hS2.own;have M2:=blk M1 hC hg2;have N2:=blk N1 hc1 hg2;obtain ⟨k4,z4⟩:=lG N2 4 _ rfl;obtain ⟨M3,N3⟩:=mF M2 N2 hne 4 (.slice ao2 l2.length cap2);have hq3:=hq2.put hc1 4 (.slice ao2 l2.length cap2);have hG3:=(hG1.up hg2).setCell (p:=⟨w1.heap.size,4,none⟩) (.inl ((hf0.up hf1).size)) (.slice ao2 l2.length cap2);have hu3:=(hu1.carry (aY hX1 hg2)).carry (aY (by simp) (cP x2 w1.heap.size 4 (.slice ao2 l2.length cap2)));have hs2:=hg2.size;have hd3:=(hS2.done.ge (n:=w1.heap.size+1) (aB N1)).carry (aY (by simp) (cP x2 w1.heap.size 4 (.slice ao2 l2.length cap2))))
   | (go_at_call 132;clear T5;refine (bT hq3 ⟨#[45,45,62]⟩ lR rfl (by decide)).mono ?_;rintro e x4 h4;rcases h4.cases with ⟨f,hr4,q,rfl,hq⟩|⟨_,v4,hr4,rfl,⟨rfl,hq4⟩,hg4⟩;(· exact ⟨rfl,by rw[dE HC.out (by rw[fN,if_pos HDO.out];exact hr2.out),jX (aR hr4).1,<-(aR hr4).2];exact aP.up hG3 ⟨q,rfl,hq⟩⟩);have M4:=blk M3 hC hg4;have N4:=blk N3 hc1 hg4;have hG4:=hG3.up hg4;have hu4:=hu3.carry (aY hX1 hg4);have hd4:=hd3.carry (aY hX1 hg4))
   | (go_at_call 133;refine (eR hq4).mono ?_;rintro e x5 h5;rcases h5.cases with ⟨f,hr5',q,rfl,hq⟩|⟨s5,v5',hr5',rfl,⟨rfl,hq5⟩,hg5⟩;(· exact ⟨rfl,by rw[dE HC.out (by rw[fN,if_pos HDO.out];exact hr2.out),lL (bF hr4) hr5'.out];exact aP.up hG4 ⟨q,rfl,hq⟩⟩);rw[sv];have M5:=blk M4 hC hg5;have N5:=blk N4 hc1 hg5;obtain ⟨k5,z5⟩:=lG N5 5 _ rfl;obtain ⟨M6,N6⟩:=mF M5 N5 hne 5 (.string ⟨s5.toArray⟩);have hq6:=hq5.put hc1 5 (.string ⟨s5.toArray⟩);have hG6:=(hG4.up hg5).setCell (p:=⟨w1.heap.size,5,none⟩) (.inl ((hf0.up hf1).size)) (.string ⟨s5.toArray⟩);have hu6:=(hu4.carry (aY hX1 hg5)).carry (aY (by simp) (cP x5 w1.heap.size 5 (.string ⟨s5.toArray⟩)));have hd6:=(hd4.carry (aY hX1 hg5)).carry (aY (by simp) (cP x5 w1.heap.size 5 (.string ⟨s5.toArray⟩))))
   | (go_at_call 140;refine (dQ hq6 ⟨#[104,105,115,116,111,114,121]⟩ fS rfl (by decide)).mono ?_;rintro e x7 ⟨rfl,hq7,hg7⟩;obtain ⟨b7,hb7⟩:∃b7,Hid (b7=decide (tx C.L (m2+2)=fS)):=⟨_,rfl⟩;rw[<-hb7.out];have M7:=blk M6 hC hg7;have N7:=blk N6 hc1 hg7;obtain ⟨k6,z6⟩:=lG N7 6 _ rfl;obtain ⟨M8,N8⟩:=mF M7 N7 hne 6 (.bool b7);have hq8:=hq7.put hc1 6 (.bool b7);have hG8:=(hG6.up hg7).setCell (p:=⟨w1.heap.size,6,none⟩) (.inl ((hf0.up hf1).size)) (.bool b7);have hu8:=(hu6.carry (aY hX1 hg7)).carry (aY (by simp) (cP x7 w1.heap.size 6 (.bool b7)));have hd8:=(hd6.carry (aY hX1 hg7)).carry (aY (by simp) (cP x7 w1.heap.size 6 (.bool b7))))
   | (go_at_call 132;refine (bT hq8 ⟨#[59]⟩ eS rfl (by decide)).mono ?_;rintro e x9 h9;rcases h9.cases with ⟨f,hr9,q,rfl,hq⟩|⟨_,v9,hr9,rfl,⟨rfl,hq9⟩,hg9⟩;(· exact ⟨rfl,by rw[dE HC.out (by rw[fN,if_pos HDO.out];exact hr2.out),eZ (bF hr4) hr5'.out,if_neg (aR hr9).1,<-(aR hr9).2];exact aP.up hG8 ⟨q,rfl,hq⟩⟩);have M9:=blk M8 hC hg9;have N9:=blk N8 hc1 hg9;have hG9:=hG8.up hg9;have hu9:=hu8.carry (aY hX1 hg9);have hd9:=hd8.carry (aY hX1 hg9))
   | (refine bP rfl 301 (.tmp 5) rfl ⟨w1.heap.size,0,none⟩ rfl (.agg (nU kind 1 b1 (.pointer p7) (.slice ao2 l2.length cap2) ⟨s5.toArray⟩ b7)) (rE rfl N9) ?_)
   | (refine wpList_store_row rfl 301 (.tmp 4) (.tmp 35) rfl w.heap.size (nU kind 1 b1 (.pointer p7) (.slice ao2 l2.length cap2) ⟨s5.toArray⟩ b7) rfl rfl 301 _ M9 Tryz.size301 rfl (lM _ _ _ _ _ _ _ _ _) ?_))
  refine bodyPost_ret (jZ _ _ w.heap.size (nU kind 1 b1 (.pointer p7) (.slice ao2 l2.length cap2) ⟨s5.toArray⟩ b7) rfl rfl (setRow_heap _ _ _ _ _ _ M9)) rfl ?_
  rw[dE HC.out (by rw[fN,if_pos HDO.out];exact hr2.out),eZ (bF hr4) hr5'.out,if_pos (bF hr9)]
  have hsz:=(hf0.up hf1).size
  have kR:aX (Ge (w1.heap.size+1)) (Ge (w1.heap.size+1)) x9 (x9.setRow w.heap.size (nU kind 1 b1 (.pointer p7) (.slice ao2 l2.length cap2) ⟨s5.toArray⟩ b7)):=aY (by simp;omega) (rI x9 w.heap.size (nU kind 1 b1 (.pointer p7) (.slice ao2 l2.length cap2) ⟨s5.toArray⟩ b7))
  exact ⟨_,rfl,⟨⟨(.pointer p7),(.slice ao2 l2.length cap2),by rw[rN,<-hb1.out,<-hb7.out];rfl,(hu9.carry kR).ge (by omega),(hd9.carry kR).ge (by omega)⟩,hq9.row hC _⟩,hG9.row (.inl (Nat.le_refl _)) _⟩
 ·
  have HDO:Hid _:=hdo
  go_wp2_with (first
   | (go_at_call 140;clear T4;refine (cG hpD ⟨#[100,111]⟩ hdo).mono ?_;rintro e x3 ⟨rfl,hq3,hg3⟩;have M3:=blk HD hC hg3.wide;have N3:=blk KD hc1 hg3.wide;have hG3:=hFD.up hg3.wide;have hu3:=hvD.carry (aY (X:=[]) (by simp) hg3);have hd3:cE (Ge (w1.heap.size+1)) x3 [] (.slice none 0 0):=rH _ _;have hs1:=hg3.size)
   | (go_at_call 132;clear T5;refine (bT hq3 ⟨#[45,45,62]⟩ lR rfl (by decide)).mono ?_;rintro e x4 h4;rcases h4.cases with ⟨f,hr4,q,rfl,hq⟩|⟨_,v4,hr4,rfl,⟨rfl,hq4⟩,hg4⟩;(· exact ⟨rfl,by rw[dE HC.out (by rw[fN,if_neg HDO.out]),jX (aR hr4).1,<-(aR hr4).2];exact aP.up hG3 ⟨q,rfl,hq⟩⟩);have M4:=blk M3 hC hg4;have N4:=blk N3 hc1 hg4;have hG4:=hG3.up hg4;have hu4:=hu3.carry (aY hX1 hg4);have hd4:=hd3.carry (aY hX1 hg4))
   | (go_at_call 133;refine (eR hq4).mono ?_;rintro e x5 h5;rcases h5.cases with ⟨f,hr5',q,rfl,hq⟩|⟨s5,v5',hr5',rfl,⟨rfl,hq5⟩,hg5⟩;(· exact ⟨rfl,by rw[dE HC.out (by rw[fN,if_neg HDO.out]),lL (bF hr4) hr5'.out];exact aP.up hG4 ⟨q,rfl,hq⟩⟩);rw[sv];have M5:=blk M4 hC hg5;have N5:=blk N4 hc1 hg5;obtain ⟨k5,z5⟩:=lG N5 5 _ rfl;obtain ⟨M6,N6⟩:=mF M5 N5 hne 5 (.string ⟨s5.toArray⟩);have hq6:=hq5.put hc1 5 (.string ⟨s5.toArray⟩);have hG6:=(hG4.up hg5).setCell (p:=⟨w1.heap.size,5,none⟩) (.inl ((hf0.up hf1).size)) (.string ⟨s5.toArray⟩);have hu6:=(hu4.carry (aY hX1 hg5)).carry (aY (by simp) (cP x5 w1.heap.size 5 (.string ⟨s5.toArray⟩)));have hd6:=(hd4.carry (aY hX1 hg5)).carry (aY (by simp) (cP x5 w1.heap.size 5 (.string ⟨s5.toArray⟩))))
   | (go_at_call 140;refine (dQ hq6 ⟨#[104,105,115,116,111,114,121]⟩ fS rfl (by decide)).mono ?_;rintro e x7 ⟨rfl,hq7,hg7⟩;obtain ⟨b7,hb7⟩:∃b7,Hid (b7=decide (tx C.L (j7+2)=fS)):=⟨_,rfl⟩;rw[<-hb7.out];have M7:=blk M6 hC hg7;have N7:=blk N6 hc1 hg7;obtain ⟨k6,z6⟩:=lG N7 6 _ rfl;obtain ⟨M8,N8⟩:=mF M7 N7 hne 6 (.bool b7);have hq8:=hq7.put hc1 6 (.bool b7);have hG8:=(hG6.up hg7).setCell (p:=⟨w1.heap.size,6,none⟩) (.inl ((hf0.up hf1).size)) (.bool b7);have hu8:=(hu6.carry (aY hX1 hg7)).carry (aY (by simp) (cP x7 w1.heap.size 6 (.bool b7)));have hd8:=(hd6.carry (aY hX1 hg7)).carry (aY (by simp) (cP x7 w1.heap.size 6 (.bool b7))))
   | (go_at_call 132;refine (bT hq8 ⟨#[59]⟩ eS rfl (by decide)).mono ?_;rintro e x9 h9;rcases h9.cases with ⟨f,hr9,q,rfl,hq⟩|⟨_,v9,hr9,rfl,⟨rfl,hq9⟩,hg9⟩;(· exact ⟨rfl,by rw[dE HC.out (by rw[fN,if_neg HDO.out]),eZ (bF hr4) hr5'.out,if_neg (aR hr9).1,<-(aR hr9).2];exact aP.up hG8 ⟨q,rfl,hq⟩⟩);have M9:=blk M8 hC hg9;have N9:=blk N8 hc1 hg9;have hG9:=hG8.up hg9;have hu9:=hu8.carry (aY hX1 hg9);have hd9:=hd8.carry (aY hX1 hg9))
   | (refine bP rfl 301 (.tmp 5) rfl ⟨w1.heap.size,0,none⟩ rfl (.agg (nU kind 1 b1 (.pointer p7) (.slice none 0 0) ⟨s5.toArray⟩ b7)) (rE rfl N9) ?_)
   | (refine wpList_store_row rfl 301 (.tmp 4) (.tmp 35) rfl w.heap.size (nU kind 1 b1 (.pointer p7) (.slice none 0 0) ⟨s5.toArray⟩ b7) rfl rfl 301 _ M9 Tryz.size301 rfl (lM _ _ _ _ _ _ _ _ _) ?_))
  refine bodyPost_ret (jZ _ _ w.heap.size (nU kind 1 b1 (.pointer p7) (.slice none 0 0) ⟨s5.toArray⟩ b7) rfl rfl (setRow_heap _ _ _ _ _ _ M9)) rfl ?_
  rw[dE HC.out (by rw[fN,if_neg HDO.out]),eZ (bF hr4) hr5'.out,if_pos (bF hr9)]
  have hsz:=(hf0.up hf1).size
  have kR:aX (Ge (w1.heap.size+1)) (Ge (w1.heap.size+1)) x9 (x9.setRow w.heap.size (nU kind 1 b1 (.pointer p7) (.slice none 0 0) ⟨s5.toArray⟩ b7)):=aY (by simp;omega) (rI x9 w.heap.size (nU kind 1 b1 (.pointer p7) (.slice none 0 0) ⟨s5.toArray⟩ b7))
  exact ⟨_,rfl,⟨⟨(.pointer p7),(.slice none 0 0),by rw[rN,<-hb1.out,<-hb7.out];rfl,(hu9.carry kR).ge (by omega),(hd9.carry kR).ge (by omega)⟩,hq9.row hC _⟩,hG9.row (.inl (Nat.le_refl _)) _⟩
theorem Ha {C:dT}{w:World}{i st ins:Nat}(h:PS C w i st ins 0) (kind:Nat) (hif:tx C.L (jU C.L fW i)=kIf) (hco:tx C.L (jU C.L fW i+1)=F9):Calls Tryz.prog 252 #[.pointer (some ⟨C.rb,0,none⟩),.int .i64 kind] w (uJ C (OkW C w st ins) w (sX C.L kind i)):=by
 have hC:=h.lts.1
 obtain ⟨hp0,hf0⟩:=h.alloc (.cells Wo 301)
 have H0:(w.alloc (.cells Wo 301)).heap[w.heap.size]?=some (.cells Wo 301 (0,0)):=heap_alloc_new _ _
 have HA1:∀f,Hid (times C.L (jU C.L fW i+2)=.error f)->Hid (cond C.L (jU C.L fW i)=.error f):=fun f hr=>by rw[Hid,Px.cond,if_pos hif,if_pos hco,hr.out]
 have HA3:∀n f,Hid (times C.L (jU C.L fW i+2)=.ok n)->Hid (eK C.L (jU C.L fW i+3)=.error f)->Hid (cond C.L (jU C.L fW i)=.error f):=fun n f hr hr2=>by rw[Hid,Px.cond,if_pos hif,if_pos hco,hr.out];simp only;rw[hr2.out]
 have HA2:∀n e j,Hid (times C.L (jU C.L fW i+2)=.ok n)->Hid (eK C.L (jU C.L fW i+3)=.ok (e,j))->Hid (cond C.L (jU C.L fW i)=.ok (n,e,j)):=fun n e j hr hr2=>by rw[Hid,Px.cond,if_pos hif,if_pos hco,hr.out];simp only;rw[hr2.out]
 have HIF:Hid _:=hif
 have HCO:Hid _:=hco
 clear hif hco
 have T1:Hid True:=trivial
 have T2:Hid True:=trivial
 have T3:Hid True:=trivial
 have T4:Hid True:=trivial
 have T5:Hid True:=trivial
 go_enter Tryz.func252,Tryz.ntmps252
 go_wp2_with (first
  | (go_at_call 140;clear T1;refine (dQ hp0 ⟨#[105,109,109,101,100,105,97,116,101]⟩ fW rfl (by decide)).mono ?_;rintro e w1 ⟨rfl,hp1,hf1⟩;obtain ⟨b1,hb1⟩:∃b1,Hid (b1=decide (tx C.L i=fW)):=⟨_,rfl⟩;rw[<-hb1.out];have H1:=blk H0 hC hf1;obtain ⟨hp2,hf2⟩:=hp1.alloc (.cells (nU kind 1 b1 (.pointer none) (.slice none 0 0) ⟨#[]⟩ false) 301);have H2:=blk H1 hC hf2;have hc1:=hp1.lts.1;have hne:w.heap.size≠w1.heap.size:=(by (have:=hf1.size;simp at this;omega));have K2:(w1.alloc (.cells (nU kind 1 b1 (.pointer none) (.slice none 0 0) ⟨#[]⟩ false) 301)).heap[w1.heap.size]?=some (.cells (nU kind 1 b1 (.pointer none) (.slice none 0 0) ⟨#[]⟩ false) 301 (0,0)):=heap_alloc_new _ _;have hF2:=(hf0.up hf1).up hf2)
  | (go_at_call 140;clear T2;refine (dM hp2 ⟨#[105,102]⟩ HIF.out (by decide)).mono ?_;rintro e w3 ⟨rfl,hp3,hf3⟩;have H3:=blk H2 hC hf3;have K3:=blk K2 hc1 hf3;have hF3:=hF2.up hf3;have hs3:=hf3.size)
  | (go_at_call 140;clear T3;refine (dM hp3 ⟨#[99,111,117,110,116]⟩ HCO.out (by decide)).mono ?_;rintro e w4 ⟨rfl,hp4,hf4⟩;have H4:=blk H3 hC hf4;have K4:=blk K3 hc1 hf4;have hF4:=hF3.up hf4;have hs4:=hf4.size)
  | (go_at_call 269;refine (Hl hp4).mono ?_;rintro e w5 h5;rcases h5.cases with ⟨f,hr5,q,rfl,hq⟩|⟨n5,v5,hr5,rfl,⟨rfl,hp5⟩,hf5⟩;(· exact ⟨rfl,by rw[vX (HA1 _ hr5).out];exact aP.up hF4 ⟨q,rfl,hq⟩⟩);have H5:=blk H4 hC hf5;have K5:=blk K4 hc1 hf5;obtain ⟨k3,z3⟩:=lG K5 3 _ rfl;obtain ⟨H6,K6⟩:=mF H5 K5 hne 3 (.int .i64 n5);have hp6:=hp5.put hc1 3 (.int .i64 n5);have hF6:=(hF4.up hf5).setCell (p:=⟨w1.heap.size,3,none⟩) (.inl ((hf0.up hf1).size)) (.int .i64 n5);have hs5:=hf5.size)
  | (go_at_call 254;refine (kS hp6).mono ?_;rintro e w7 h7;rcases h7.cases with ⟨f,hr7,q,rfl,hq⟩|⟨⟨e7,j7⟩,v7,hr7,rfl,⟨hv7,hp7⟩,hf7⟩;(· exact ⟨rfl,by rw[vX (HA3 _ _ hr5 hr7).out];exact aP.up hF6 ⟨q,rfl,hq⟩⟩);obtain ⟨p7,rfl⟩:=hv7.ptr;have H7:=blk H6 hC hf7;have K7:=blk K6 hc1 hf7;obtain ⟨k2,z2⟩:=lG K7 2 _ rfl;obtain ⟨HD,KD⟩:=mF H7 K7 hne 2 (.pointer p7);have hpD:=hp7.put hc1 2 (.pointer p7);have hFD:=(hF6.up hf7).setCell (p:=⟨w1.heap.size,2,none⟩) (.inl ((hf0.up hf1).size)) (.pointer p7);have hv8:=hv7.ge (n:=w1.heap.size+1) (aB K6);have hvD:=hv8.carry (aY (by simp) (cP w7 w1.heap.size 2 (.pointer p7)))))
 have HC:=HA2 _ _ _ hr5 hr7
 have hX1:∀x∈[C.rb],x<w1.heap.size+1:=by simp;omega
 by_cases hdo:tx C.L j7=kDo
 ·
  have HDO:Hid _:=hdo
  go_wp2_with (first
   | (go_at_call 140;clear T4;refine (dM hpD ⟨#[100,111]⟩ hdo (by decide)).mono ?_;rintro e x1 ⟨rfl,hq1,hg1⟩;have M1:=blk HD hC hg1;have N1:=blk KD hc1 hg1;have hG1:=hFD.up hg1;have hu1:=hvD.carry (aY hX1 hg1);have hs1:=hg1.size)
   | (go_at_call 253;refine (mJ hq1).mono ?_;rintro e x2 h2;rcases h2.cases with ⟨f,hr2,q,rfl,hq⟩|⟨⟨l2,m2⟩,v2,hr2,rfl,⟨⟨xs2,hS2⟩,-,hq2⟩,hg2⟩;(· exact ⟨rfl,by rw[vW HC.out (by rw[fN,if_pos HDO.out];exact hr2.out)];exact aP.up hG1 ⟨q,rfl,hq⟩⟩);obtain ⟨ao2,cap2,rfl⟩:=aJ hS2.own;have M2:=blk M1 hC hg2;have N2:=blk N1 hc1 hg2;obtain ⟨k4,z4⟩:=lG N2 4 _ rfl;obtain ⟨M3,N3⟩:=mF M2 N2 hne 4 (.slice ao2 l2.length cap2);have hq3:=hq2.put hc1 4 (.slice ao2 l2.length cap2);have hG3:=(hG1.up hg2).setCell (p:=⟨w1.heap.size,4,none⟩) (.inl ((hf0.up hf1).size)) (.slice ao2 l2.length cap2);have hu3:=(hu1.carry (aY hX1 hg2)).carry (aY (by simp) (cP x2 w1.heap.size 4 (.slice ao2 l2.length cap2)));have hs2:=hg2.size;have hd3:=(hS2.done.ge (n:=w1.heap.size+1) (aB N1)).carry (aY (by simp) (cP x2 w1.heap.size 4 (.slice ao2 l2.length cap2))))
   | (go_at_call 132;clear T5;refine (bT hq3 ⟨#[45,45,62]⟩ lR rfl (by decide)).mono ?_;rintro e x4 h4;rcases h4.cases with ⟨f,hr4,q,rfl,hq⟩|⟨_,v4,hr4,rfl,⟨rfl,hq4⟩,hg4⟩;(· exact ⟨rfl,by rw[dE HC.out (by rw[fN,if_pos HDO.out];exact hr2.out),jX (aR hr4).1,<-(aR hr4).2];exact aP.up hG3 ⟨q,rfl,hq⟩⟩);have M4:=blk M3 hC hg4;have N4:=blk N3 hc1 hg4;have hG4:=hG3.up hg4;have hu4:=hu3.carry (aY hX1 hg4);have hd4:=hd3.carry (aY hX1 hg4))
   | (go_at_call 133;refine (eR hq4).mono ?_;rintro e x5 h5;rcases h5.cases with ⟨f,hr5',q,rfl,hq⟩|⟨s5,v5',hr5',rfl,⟨rfl,hq5⟩,hg5⟩;(· exact ⟨rfl,by rw[dE HC.out (by rw[fN,if_pos HDO.out];exact hr2.out),lL (bF hr4) hr5'.out];exact aP.up hG4 ⟨q,rfl,hq⟩⟩);rw[sv];have M5:=blk M4 hC hg5;have N5:=blk N4 hc1 hg5;obtain ⟨k5,z5⟩:=lG N5 5 _ rfl;obtain ⟨M6,N6⟩:=mF M5 N5 hne 5 (.string ⟨s5.toArray⟩);have hq6:=hq5.put hc1 5 (.string ⟨s5.toArray⟩);have hG6:=(hG4.up hg5).setCell (p:=⟨w1.heap.size,5,none⟩) (.inl ((hf0.up hf1).size)) (.string ⟨s5.toArray⟩);have hu6:=(hu4.carry (aY hX1 hg5)).carry (aY (by simp) (cP x5 w1.heap.size 5 (.string ⟨s5.toArray⟩)));have hd6:=(hd4.carry (aY hX1 hg5)).carry (aY (by simp) (cP x5 w1.heap.size 5 (.string ⟨s5.toArray⟩))))
   | (go_at_call 140;refine (dQ hq6 ⟨#[104,105,115,116,111,114,121]⟩ fS rfl (by decide)).mono ?_;rintro e x7 ⟨rfl,hq7,hg7⟩;obtain ⟨b7,hb7⟩:∃b7,Hid (b7=decide (tx C.L (m2+2)=fS)):=⟨_,rfl⟩;rw[<-hb7.out];have M7:=blk M6 hC hg7;have N7:=blk N6 hc1 hg7;obtain ⟨k6,z6⟩:=lG N7 6 _ rfl;obtain ⟨M8,N8⟩:=mF M7 N7 hne 6 (.bool b7);have hq8:=hq7.put hc1 6 (.bool b7);have hG8:=(hG6.up hg7).setCell (p:=⟨w1.heap.size,6,none⟩) (.inl ((hf0.up hf1).size)) (.bool b7);have hu8:=(hu6.carry (aY hX1 hg7)).carry (aY (by simp) (cP x7 w1.heap.size 6 (.bool b7)));have hd8:=(hd6.carry (aY hX1 hg7)).carry (aY (by simp) (cP x7 w1.heap.size 6 (.bool b7))))
   | (go_at_call 132;refine (bT hq8 ⟨#[59]⟩ eS rfl (by decide)).mono ?_;rintro e x9 h9;rcases h9.cases with ⟨f,hr9,q,rfl,hq⟩|⟨_,v9,hr9,rfl,⟨rfl,hq9⟩,hg9⟩;(· exact ⟨rfl,by rw[dE HC.out (by rw[fN,if_pos HDO.out];exact hr2.out),eZ (bF hr4) hr5'.out,if_neg (aR hr9).1,<-(aR hr9).2];exact aP.up hG8 ⟨q,rfl,hq⟩⟩);have M9:=blk M8 hC hg9;have N9:=blk N8 hc1 hg9;have hG9:=hG8.up hg9;have hu9:=hu8.carry (aY hX1 hg9);have hd9:=hd8.carry (aY hX1 hg9))
   | (refine bP rfl 301 (.tmp 5) rfl ⟨w1.heap.size,0,none⟩ rfl (.agg (nU kind n5 b1 (.pointer p7) (.slice ao2 l2.length cap2) ⟨s5.toArray⟩ b7)) (rE rfl N9) ?_)
   | (refine wpList_store_row rfl 301 (.tmp 4) (.tmp 35) rfl w.heap.size (nU kind n5 b1 (.pointer p7) (.slice ao2 l2.length cap2) ⟨s5.toArray⟩ b7) rfl rfl 301 _ M9 Tryz.size301 rfl (lM _ _ _ _ _ _ _ _ _) ?_))
  refine bodyPost_ret (jZ _ _ w.heap.size (nU kind n5 b1 (.pointer p7) (.slice ao2 l2.length cap2) ⟨s5.toArray⟩ b7) rfl rfl (setRow_heap _ _ _ _ _ _ M9)) rfl ?_
  rw[dE HC.out (by rw[fN,if_pos HDO.out];exact hr2.out),eZ (bF hr4) hr5'.out,if_pos (bF hr9)]
  have hsz:=(hf0.up hf1).size
  have kR:aX (Ge (w1.heap.size+1)) (Ge (w1.heap.size+1)) x9 (x9.setRow w.heap.size (nU kind n5 b1 (.pointer p7) (.slice ao2 l2.length cap2) ⟨s5.toArray⟩ b7)):=aY (by simp;omega) (rI x9 w.heap.size (nU kind n5 b1 (.pointer p7) (.slice ao2 l2.length cap2) ⟨s5.toArray⟩ b7))
  exact ⟨_,rfl,⟨⟨(.pointer p7),(.slice ao2 l2.length cap2),by rw[rN,<-hb1.out,<-hb7.out];rfl,(hu9.carry kR).ge (by omega),(hd9.carry kR).ge (by omega)⟩,hq9.row hC _⟩,hG9.row (.inl (Nat.le_refl _)) _⟩
 ·
  have HDO:Hid _:=hdo
  go_wp2_with (first
   | (go_at_call 140;clear T4;refine (cG hpD ⟨#[100,111]⟩ hdo).mono ?_;rintro e x3 ⟨rfl,hq3,hg3⟩;have M3:=blk HD hC hg3.wide;have N3:=blk KD hc1 hg3.wide;have hG3:=hFD.up hg3.wide;have hu3:=hvD.carry (aY (X:=[]) (by simp) hg3);have hd3:cE (Ge (w1.heap.size+1)) x3 [] (.slice none 0 0):=rH _ _;have hs1:=hg3.size)
   | (go_at_call 132;clear T5;refine (bT hq3 ⟨#[45,45,62]⟩ lR rfl (by decide)).mono ?_;rintro e x4 h4;rcases h4.cases with ⟨f,hr4,q,rfl,hq⟩|⟨_,v4,hr4,rfl,⟨rfl,hq4⟩,hg4⟩;(· exact ⟨rfl,by rw[dE HC.out (by rw[fN,if_neg HDO.out]),jX (aR hr4).1,<-(aR hr4).2];exact aP.up hG3 ⟨q,rfl,hq⟩⟩);have M4:=blk M3 hC hg4;have N4:=blk N3 hc1 hg4;have hG4:=hG3.up hg4;have hu4:=hu3.carry (aY hX1 hg4);have hd4:=hd3.carry (aY hX1 hg4))
   | (go_at_call 133;refine (eR hq4).mono ?_;rintro e x5 h5;rcases h5.cases with ⟨f,hr5',q,rfl,hq⟩|⟨s5,v5',hr5',rfl,⟨rfl,hq5⟩,hg5⟩;(· exact ⟨rfl,by rw[dE HC.out (by rw[fN,if_neg HDO.out]),lL (bF hr4) hr5'.out];exact aP.up hG4 ⟨q,rfl,hq⟩⟩);rw[sv];have M5:=blk M4 hC hg5;have N5:=blk N4 hc1 hg5;obtain ⟨k5,z5⟩:=lG N5 5 _ rfl;obtain ⟨M6,N6⟩:=mF M5 N5 hne 5 (.string ⟨s5.toArray⟩);have hq6:=hq5.put hc1 5 (.string ⟨s5.toArray⟩);have hG6:=(hG4.up hg5).setCell (p:=⟨w1.heap.size,5,none⟩) (.inl ((hf0.up hf1).size)) (.string ⟨s5.toArray⟩);have hu6:=(hu4.carry (aY hX1 hg5)).carry (aY (by simp) (cP x5 w1.heap.size 5 (.string ⟨s5.toArray⟩)));have hd6:=(hd4.carry (aY hX1 hg5)).carry (aY (by simp) (cP x5 w1.heap.size 5 (.string ⟨s5.toArray⟩))))
   | (go_at_call 140;refine (dQ hq6 ⟨#[104,105,115,116,111,114,121]⟩ fS rfl (by decide)).mono ?_;rintro e x7 ⟨rfl,hq7,hg7⟩;obtain ⟨b7,hb7⟩:∃b7,Hid (b7=decide (tx C.L (j7+2)=fS)):=⟨_,rfl⟩;rw[<-hb7.out];have M7:=blk M6 hC hg7;have N7:=blk N6 hc1 hg7;obtain ⟨k6,z6⟩:=lG N7 6 _ rfl;obtain ⟨M8,N8⟩:=mF M7 N7 hne 6 (.bool b7);have hq8:=hq7.put hc1 6 (.bool b7);have hG8:=(hG6.up hg7).setCell (p:=⟨w1.heap.size,6,none⟩) (.inl ((hf0.up hf1).size)) (.bool b7);have hu8:=(hu6.carry (aY hX1 hg7)).carry (aY (by simp) (cP x7 w1.heap.size 6 (.bool b7)));have hd8:=(hd6.carry (aY hX1 hg7)).carry (aY (by simp) (cP x7 w1.heap.size 6 (.bool b7))))
   | (go_at_call 132;refine (bT hq8 ⟨#[59]⟩ eS rfl (by decide)).mono ?_;rintro e x9 h9;rcases h9.cases with ⟨f,hr9,q,rfl,hq⟩|⟨_,v9,hr9,rfl,⟨rfl,hq9⟩,hg9⟩;(· exact ⟨rfl,by rw[dE HC.out (by rw[fN,if_neg HDO.out]),eZ (bF hr4) hr5'.out,if_neg (aR hr9).1,<-(aR hr9).2];exact aP.up hG8 ⟨q,rfl,hq⟩⟩);have M9:=blk M8 hC hg9;have N9:=blk N8 hc1 hg9;have hG9:=hG8.up hg9;have hu9:=hu8.carry (aY hX1 hg9);have hd9:=hd8.carry (aY hX1 hg9))
   | (refine bP rfl 301 (.tmp 5) rfl ⟨w1.heap.size,0,none⟩ rfl (.agg (nU kind n5 b1 (.pointer p7) (.slice none 0 0) ⟨s5.toArray⟩ b7)) (rE rfl N9) ?_)
   | (refine wpList_store_row rfl 301 (.tmp 4) (.tmp 35) rfl w.heap.size (nU kind n5 b1 (.pointer p7) (.slice none 0 0) ⟨s5.toArray⟩ b7) rfl rfl 301 _ M9 Tryz.size301 rfl (lM _ _ _ _ _ _ _ _ _) ?_))
  refine bodyPost_ret (jZ _ _ w.heap.size (nU kind n5 b1 (.pointer p7) (.slice none 0 0) ⟨s5.toArray⟩ b7) rfl rfl (setRow_heap _ _ _ _ _ _ M9)) rfl ?_
  rw[dE HC.out (by rw[fN,if_neg HDO.out]),eZ (bF hr4) hr5'.out,if_pos (bF hr9)]
  have hsz:=(hf0.up hf1).size
  have kR:aX (Ge (w1.heap.size+1)) (Ge (w1.heap.size+1)) x9 (x9.setRow w.heap.size (nU kind n5 b1 (.pointer p7) (.slice none 0 0) ⟨s5.toArray⟩ b7)):=aY (by simp;omega) (rI x9 w.heap.size (nU kind n5 b1 (.pointer p7) (.slice none 0 0) ⟨s5.toArray⟩ b7))
  exact ⟨_,rfl,⟨⟨(.pointer p7),(.slice none 0 0),by rw[rN,<-hb1.out,<-hb7.out];rfl,(hu9.carry kR).ge (by omega),(hd9.carry kR).ge (by omega)⟩,hq9.row hC _⟩,hG9.row (.inl (Nat.le_refl _)) _⟩
theorem Tc {C:dT}{w:World}{i st ins:Nat}(h:PS C w i st ins 0) (kind:Nat):Calls Tryz.prog 252 #[.pointer (some ⟨C.rb,0,none⟩),.int .i64 kind] w (uJ C (OkW C w st ins) w (sX C.L kind i)):=by
 by_cases hif:tx C.L (jU C.L fW i)=kIf
 ·by_cases hco:tx C.L (jU C.L fW i+1)=F9
  ·exact Ha h kind hif hco
  ·exact Xx h kind hif hco
 ·exact Lz h kind hif
end Go.Proofs.YtcdbhoknhnimcaaGreatDoor
