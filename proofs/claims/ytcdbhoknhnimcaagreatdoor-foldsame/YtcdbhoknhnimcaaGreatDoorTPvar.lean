import Derived.Test.YtcdbhoknhnimcaaGreatDoorTPsets
import Derived.Laws.Tables
import Derived.Laws.Rows
set_option maxRecDepth 100000
set_option maxHeartbeats 4000000
namespace Go.Proofs.YtcdbhoknhnimcaaGreatDoor
open Go.RowKit Px
theorem PS.put {C:dT}{w:World}{i st ins und b:Nat}(h:PS C w i st ins und) (hb:C.rb<b) (o:Nat) (v:Value):PS C (w.setCell ⟨b,o,none⟩ v) i st ins und:=
 h.low (B:=b) hb ((Fr.refl b [] w).setCell (p:=⟨b,o,none⟩) (.inl (Nat.le_refl _)) v)
theorem Fr.row {B:Nat}{X:List Nat}{a w:World}(h:Fr B X a w) {b:Nat}(hp:B≤b\/b∈X) (cs:Array Value):Fr B X a (w.setRow b cs):=
 h.trans ⟨rfl,rfl,rfl,by simp[World.setRow],fun k hk hx=>setRow_other _ _ _ _ (fun e=>by rcases hp with hp|hp;omega;exact hx (e▸hp))⟩
theorem PS.row {C:dT}{w:World}{i st ins und b:Nat}(h:PS C w i st ins und) (hb:C.rb<b) (cs:Array Value):PS C (w.setRow b cs) i st ins und:=
 h.low (B:=b) hb ((Fr.refl _ _ _).row (.inl (Nat.le_refl _)) cs)
theorem blk {C:dT}{w w':World}{b:Nat}{o:Obj}(h:w.heap[b]?=some o) (hb:C.rb<b) (hf:Fr w.heap.size [C.rb] w w'):w'.heap[b]?=some o:=by
 rw[hf.block b (aB h) (by simp;omega)];exact h
theorem mF {w:World}{a b:Nat}{O:Obj}{cs:Array Value}{t:TypeId}(H:w.heap[a]?=some O) (K:w.heap[b]?=some (.cells cs t (0,0))) (hne:a≠b) (o:Nat) (v:Value):(w.setCell ⟨b,o,none⟩ v).heap[a]?=some O/\(w.setCell ⟨b,o,none⟩ v).heap[b]?=some (.cells (cs.setIfInBounds o v) t (0,0)):=
 ⟨by rw[Below.heap_setCell _ _ _ _ hne];exact H,heap_setCell_same w b o _ t _ K⟩
theorem lG {w:World}{b:Nat}{cs:Array Value}{t:TypeId}(K:w.heap[b]?=some (.cells cs t (0,0))) (o:Nat) (v:Value) (hv:cs[o]?=some v):w.cell? ⟨b,o,none⟩=some v/\w.frozen? ⟨b,o,none⟩=false:=
 ⟨by rw[cell_of_row _ _ _ _ _ _ K];exact hv,by simp[World.frozen?,K]⟩
theorem dQ {C:dT}{w:World}{i st ins und:Nat}(h:PS C w i st ins und) (s:ByteArray) (k:bB) (hk:bs s=k) (hne:k≠[]):Calls Tryz.prog 140 #[.pointer (some ⟨C.rb,0,none⟩),.string s] w fun e w'=>e=.returned (.bool (decide (tx C.L i=k)))/\PS C w' (jU C.L k i) st ins und/\Fr w.heap.size [C.rb] w w':=by
 subst hk
 by_cases ht:tx C.L i=bs s
 ·refine (dM h s ht hne).mono ?_
  rintro e w' ⟨rfl,hp,hf⟩
  exact ⟨by rw[decide_eq_true ht],by rw[jU,if_pos ht];exact hp,hf⟩
 ·refine (cG h s ht).mono ?_
  rintro e w' ⟨rfl,hp,hf⟩
  exact ⟨by rw[decide_eq_false ht],by rw[jU,if_neg ht];exact hp,hf.wide⟩
theorem Tryz.size160:(Tryz.prog.info? 160).map (·.size)=some 3:=by kernel_rfl
theorem tK (tmps:Array Value) (W:World) (g:Nat) (fc:Array Value) (hsz:fc.size=3) (hp:tmps.getD 4 undef=.pointer (some ⟨g,0,none⟩)) (hg:W.heap[g]?=some (.cells fc 160 (0,0))) :
    (results Tryz.f139 tmps).run Tryz.prog W=.ok (.agg fc) W:=by
 have hl:=run_loadVar_row (P:=Tryz.prog) W g 160 160 fc (0,0) _ hg Tryz.underlying160 rfl (by rw[hsz];exact Tryz.size160)
 have hp':tmps[4]?.getD undef=.pointer (some ⟨g,0,none⟩):=by simpa using hp
 simp[results,Tryz.results139,hp',asAddr,hl]
def OkV (C:dT) (st ins:Nat) (p:bJ×Nat) (v:Value) (w':World):Prop:=v=.agg #[.int .i64 p.1.kind,sv p.1.name,.int .i64 p.1.first]/\PS C w' p.2 st ins 0
theorem Cr {W:World}{g:Nat}{fc:Array Value}(hsz:fc.size=3) (hg:W.heap[g]?=some (.cells fc 160 (0,0))):(loadVar 160 ⟨g,0,none⟩).run Tryz.prog W=.ok (.agg fc) W:=
 run_loadVar_row (P:=Tryz.prog) W g 160 160 fc (0,0) _ hg Tryz.underlying160 rfl (by rw[hsz];exact Tryz.size160)
theorem tA (a b:Int) (s:ByteArray):(#[Value.int .i64 a,.string s,.int .i64 b]:Array Value).all (·.oneCell')=true:=by simp[Value.oneCell']
theorem yM {C:dT}{w:World}{i st ins:Nat}(h:PS C w i st ins 0) (kind:Nat) (hce:tx C.L (i+1)≠rG):Calls Tryz.prog 139 #[.pointer (some ⟨C.rb,0,none⟩),.int .i64 kind] w (uJ C (OkV C st ins) w (cZ C.L kind i)):=by
 have hC:=h.lts.1
 obtain ⟨hp0,hf0⟩:=h.alloc (.cells #[.int .i64 0,.string ⟨#[]⟩,.int .i64 0] 160)
 have H0:(w.alloc (.cells #[.int .i64 0,.string ⟨#[]⟩,.int .i64 0] 160)).heap[w.heap.size]?=some (.cells #[.int .i64 0,.string ⟨#[]⟩,.int .i64 0] 160 (0,0)):=heap_alloc_new _ _
 have HCE:Hid _:=hce
 have HV:∀s,Hid (nm C.L i=.ok s)->Hid (cZ C.L kind i=if tx C.L (i+1)=eS then .ok (⟨kind,s,0⟩,i+2) else .error (3,pl C.L (i+1))):=fun s hs=>by
  rw[Hid,cZ,hs.out,first,if_neg HCE.out]
 clear hce
 go_enter Tryz.func139,Tryz.ntmps139
 go_wp2_with (first
  | (go_at_call 133;refine (eR hp0).mono ?_;rintro e w1 h1;rcases h1.cases with ⟨f,hr1,q,rfl,hq⟩|⟨s1,v1,hr1,rfl,⟨rfl,hp1⟩,hf1⟩;(· exact ⟨rfl,by rw[cZ,hr1.out];exact aP.up hf0 ⟨q,rfl,hq⟩⟩);rw[sv];have H1:=blk H0 hC hf1;clear H0;obtain ⟨hp2,hf2⟩:=hp1.alloc (.cells #[.int .i64 kind,.string ⟨s1.toArray⟩,.int .i64 0] 160);have H2:=blk H1 hC hf2;have hc1:=hp1.lts.1;have hne:w.heap.size≠w1.heap.size:=(by (have:=hf1.size;simp at this;omega));have K2:(w1.alloc (.cells #[.int .i64 kind,.string ⟨s1.toArray⟩,.int .i64 0] 160)).heap[w1.heap.size]?=some (.cells #[.int .i64 kind,.string ⟨s1.toArray⟩,.int .i64 0] 160 (0,0)):=heap_alloc_new _ _)
  | (go_at_call 140;refine (cG hp2 ⟨#[58,61]⟩ HCE.out).mono ?_;rintro e w3 ⟨rfl,hp3,hf3⟩;have H3:=blk H2 hC hf3.wide;have K3:=blk K2 hc1 hf3.wide)
  | (go_at_call 132;refine (bT hp3 ⟨#[59]⟩ eS rfl (by decide)).mono ?_;rintro e w4 h4;rcases h4.cases with ⟨f,hr4,q,rfl,hq⟩|⟨_,v4,hr4,rfl,⟨rfl,hp4⟩,hf4⟩;(· exact ⟨rfl,by rw[(HV _ hr1).out,if_neg (aR hr4).1,<-(aR hr4).2];exact aP.up (((hf0.up hf1).up hf2).up hf3.wide) ⟨q,rfl,hq⟩⟩);have H4:=blk H3 hC hf4;have K4:=blk K3 hc1 hf4;clear H3 K3)
  | (refine bP rfl 160 (.tmp 5) rfl ⟨w1.heap.size,0,none⟩ rfl (.agg #[.int .i64 kind,.string ⟨s1.toArray⟩,.int .i64 0]) (Cr rfl K4) ?_)
  | (refine wpList_store_row rfl 160 (.tmp 4) (.tmp 25) rfl w.heap.size #[.int .i64 kind,.string ⟨s1.toArray⟩,.int .i64 0] rfl rfl 160 _ H4 Tryz.size160 rfl (tA _ _ _) ?_))
 refine bodyPost_ret (tK _ _ w.heap.size #[.int .i64 kind,.string ⟨s1.toArray⟩,.int .i64 0] rfl rfl (setRow_heap _ _ _ _ _ _ H4)) rfl ?_
 rw[(HV _ hr1).out,if_pos (bF hr4)]
 exact ⟨_,rfl,⟨rfl,hp4.row hC _⟩,(((((hf0.up hf1).up hf2).up hf3.wide).up hf4).row (.inl (Nat.le_refl _)) _)⟩
theorem C2 {C:dT}{w:World}{i st ins:Nat}(h:PS C w i st ins 0) (kind:Nat) (hce:tx C.L (i+1)=rG) (hmi:tx C.L (i+2)≠tQ):Calls Tryz.prog 139 #[.pointer (some ⟨C.rb,0,none⟩),.int .i64 kind] w (uJ C (OkV C st ins) w (cZ C.L kind i)):=by
 have hC:=h.lts.1
 obtain ⟨hp0,hf0⟩:=h.alloc (.cells #[.int .i64 0,.string ⟨#[]⟩,.int .i64 0] 160)
 have H0:(w.alloc (.cells #[.int .i64 0,.string ⟨#[]⟩,.int .i64 0] 160)).heap[w.heap.size]?=some (.cells #[.int .i64 0,.string ⟨#[]⟩,.int .i64 0] 160 (0,0)):=heap_alloc_new _ _
 have HV:∀s,Hid (nm C.L i=.ok s)->Hid (cZ C.L kind i=match bM C.L (i+2) with | .error x=>.error x | .ok n=>if tx C.L (i+3)=eS then .ok (⟨kind,s,(n:Int)⟩,i+3+1) else .error (3,pl C.L (i+3))):=fun s hs=>by
  rw[Hid,cZ,hs.out,first,if_pos hce,if_neg hmi]
  cases bM C.L (i+2)<;>rfl
 have HCE:Hid _:=hce
 have HMI:Hid _:=hmi
 clear hce hmi
 have T1:Hid True:=trivial
 go_enter Tryz.func139,Tryz.ntmps139
 go_wp2_with (first
  | (go_at_call 133;refine (eR hp0).mono ?_;rintro e w1 h1;rcases h1.cases with ⟨f,hr1,q,rfl,hq⟩|⟨s1,v1,hr1,rfl,⟨rfl,hp1⟩,hf1⟩;(· exact ⟨rfl,by rw[cZ,hr1.out];exact aP.up hf0 ⟨q,rfl,hq⟩⟩);rw[sv];have H1:=blk H0 hC hf1;clear H0;obtain ⟨hp2,hf2⟩:=hp1.alloc (.cells #[.int .i64 kind,.string ⟨s1.toArray⟩,.int .i64 0] 160);have H2:=blk H1 hC hf2;have hc1:=hp1.lts.1;have hne:w.heap.size≠w1.heap.size:=(by (have:=hf1.size;simp at this;omega));have K2:(w1.alloc (.cells #[.int .i64 kind,.string ⟨s1.toArray⟩,.int .i64 0] 160)).heap[w1.heap.size]?=some (.cells #[.int .i64 kind,.string ⟨s1.toArray⟩,.int .i64 0] 160 (0,0)):=heap_alloc_new _ _)
  | (go_at_call 140;clear T1;refine (dM hp2 ⟨#[58,61]⟩ HCE.out (by decide)).mono ?_;rintro e w3 ⟨rfl,hp3,hf3⟩;have H3:=blk H2 hC hf3;have K3:=blk K2 hc1 hf3)
  | (go_at_call 140;refine (cG hp3 ⟨#[45]⟩ HMI.out).mono ?_;rintro e w4 ⟨rfl,hp4,hf4⟩;have H4:=blk H3 hC hf4.wide;have K4:=blk K3 hc1 hf4.wide;clear H3 K3;have hF4:=(((hf0.up hf1).up hf2).up hf3).up hf4.wide)
  | (go_at_call 190;refine (dB _ _ st ins 0 hp4).mono ?_;rintro e w5 h5;rcases h5.cases with ⟨f,hr5,q,rfl,hq⟩|⟨n,v5,hr5,rfl,⟨rfl,hn18,hp5⟩,hf5⟩;(· exact ⟨rfl,by rw[(HV _ hr1).out,hr5.out];exact aP.up hF4 ⟨q,rfl,hq⟩⟩);have H5:=blk H4 hC hf5;have K5:=blk K4 hc1 hf5;clear H4 K4;have hn1:(n:Int)<1000000000000000000:=(by omega);have hn0:(0:Int)≤n:=(by omega);obtain ⟨k2,z2⟩:=lG K5 2 _ rfl;have hp6:=hp5.put hc1 2 (.int .i64 (n:Int));obtain ⟨H6,K6⟩:=mF H5 K5 hne 2 (.int .i64 (n:Int));have hF6:Fr w.heap.size [C.rb] w (w5.setCell ⟨w1.heap.size,2,none⟩ (.int .i64 (n:Int))):=(hF4.up hf5).setCell (.inl ((hf0.up hf1).size)) _)
  | (go_at_call 132;refine (bT hp6 ⟨#[59]⟩ eS rfl (by decide)).mono ?_;rintro e w7 h7;rcases h7.cases with ⟨f,hr7,q,rfl,hq⟩|⟨_,v7,hr7,rfl,⟨rfl,hp7⟩,hf7⟩;(· exact ⟨rfl,by rw[(HV _ hr1).out,hr5.out];simp only;rw[if_neg (aR hr7).1,<-(aR hr7).2];exact aP.up hF6 ⟨q,rfl,hq⟩⟩);have H7:=blk H6 hC hf7;have K7:=blk K6 hc1 hf7)
  | (refine bP rfl 160 (.tmp 5) rfl ⟨w1.heap.size,0,none⟩ rfl (.agg #[.int .i64 kind,.string ⟨s1.toArray⟩,.int .i64 (n:Int)]) (Cr rfl K7) ?_)
  | (refine wpList_store_row rfl 160 (.tmp 4) (.tmp 25) rfl w.heap.size #[.int .i64 kind,.string ⟨s1.toArray⟩,.int .i64 (n:Int)] rfl rfl 160 _ H7 Tryz.size160 rfl (tA _ _ _) ?_))
 refine bodyPost_ret (tK _ _ w.heap.size #[.int .i64 kind,.string ⟨s1.toArray⟩,.int .i64 (n:Int)] rfl rfl (setRow_heap _ _ _ _ _ _ H7)) rfl ?_
 rw[(HV _ hr1).out,hr5.out]
 simp only
 rw[if_pos (bF hr7)]
 exact ⟨_,rfl,⟨rfl,hp7.row hC _⟩,(hF6.up hf7).row (.inl (Nat.le_refl _)) _⟩
theorem C3 {C:dT}{w:World}{i st ins:Nat}(h:PS C w i st ins 0) (kind:Nat) (hce:tx C.L (i+1)=rG) (hmi:tx C.L (i+2)=tQ):Calls Tryz.prog 139 #[.pointer (some ⟨C.rb,0,none⟩),.int .i64 kind] w (uJ C (OkV C st ins) w (cZ C.L kind i)):=by
 have hC:=h.lts.1
 obtain ⟨hp0,hf0⟩:=h.alloc (.cells #[.int .i64 0,.string ⟨#[]⟩,.int .i64 0] 160)
 have H0:(w.alloc (.cells #[.int .i64 0,.string ⟨#[]⟩,.int .i64 0] 160)).heap[w.heap.size]?=some (.cells #[.int .i64 0,.string ⟨#[]⟩,.int .i64 0] 160 (0,0)):=heap_alloc_new _ _
 have HV:∀s,Hid (nm C.L i=.ok s)->Hid (cZ C.L kind i=match bM C.L (i+3) with | .error x=>.error x | .ok n=>if tx C.L (i+4)=eS then .ok (⟨kind,s,-(n:Int)⟩,i+4+1) else .error (3,pl C.L (i+4))):=fun s hs=>by
  rw[Hid,cZ,hs.out,first,if_pos hce,if_pos hmi]
  cases bM C.L (i+3)<;>rfl
 have HCE:Hid _:=hce
 have HMI:Hid _:=hmi
 clear hce hmi
 have T1:Hid True:=trivial
 go_enter Tryz.func139,Tryz.ntmps139
 go_wp2_with (first
  | (go_at_call 133;refine (eR hp0).mono ?_;rintro e w1 h1;rcases h1.cases with ⟨f,hr1,q,rfl,hq⟩|⟨s1,v1,hr1,rfl,⟨rfl,hp1⟩,hf1⟩;(· exact ⟨rfl,by rw[cZ,hr1.out];exact aP.up hf0 ⟨q,rfl,hq⟩⟩);rw[sv];have H1:=blk H0 hC hf1;clear H0;obtain ⟨hp2,hf2⟩:=hp1.alloc (.cells #[.int .i64 kind,.string ⟨s1.toArray⟩,.int .i64 0] 160);have H2:=blk H1 hC hf2;have hc1:=hp1.lts.1;have hne:w.heap.size≠w1.heap.size:=(by (have:=hf1.size;simp at this;omega));have K2:(w1.alloc (.cells #[.int .i64 kind,.string ⟨s1.toArray⟩,.int .i64 0] 160)).heap[w1.heap.size]?=some (.cells #[.int .i64 kind,.string ⟨s1.toArray⟩,.int .i64 0] 160 (0,0)):=heap_alloc_new _ _)
  | (go_at_call 140;clear T1;refine (dM hp2 ⟨#[58,61]⟩ HCE.out (by decide)).mono ?_;rintro e w3 ⟨rfl,hp3,hf3⟩;have H3:=blk H2 hC hf3;have K3:=blk K2 hc1 hf3)
  | (go_at_call 140;refine (dM hp3 ⟨#[45]⟩ HMI.out (by decide)).mono ?_;rintro e w4 ⟨rfl,hp4,hf4⟩;have H4:=blk H3 hC hf4;have K4:=blk K3 hc1 hf4;clear H3 K3;have hF4:=(((hf0.up hf1).up hf2).up hf3).up hf4)
  | (go_at_call 190;refine (dB _ _ st ins 0 hp4).mono ?_;rintro e w5 h5;rcases h5.cases with ⟨f,hr5,q,rfl,hq⟩|⟨n,v5,hr5,rfl,⟨rfl,hn18,hp5⟩,hf5⟩;(· exact ⟨rfl,by rw[(HV _ hr1).out,hr5.out];exact aP.up hF4 ⟨q,rfl,hq⟩⟩);have H5:=blk H4 hC hf5;have K5:=blk K4 hc1 hf5;clear H4 K4;have hn1:(n:Int)<1000000000000000000:=(by omega);have hn0:(0:Int)≤n:=(by omega);obtain ⟨k2,z2⟩:=lG K5 2 _ rfl;have hp6:=(hp5.put hc1 2 (.int .i64 (n:Int))).put hc1 2 (.int .i64 (-(n:Int)));obtain ⟨H6a,K6a⟩:=mF H5 K5 hne 2 (.int .i64 (n:Int));obtain ⟨H6,K6⟩:=mF H6a K6a hne 2 (.int .i64 (-(n:Int)));have hF6:=((hF4.up hf5).setCell (p:=⟨w1.heap.size,2,none⟩) (.inl ((hf0.up hf1).size)) (.int .i64 (n:Int))).setCell (p:=⟨w1.heap.size,2,none⟩) (.inl ((hf0.up hf1).size)) (.int .i64 (-(n:Int))))
  | (go_at_call 132;refine (bT hp6 ⟨#[59]⟩ eS rfl (by decide)).mono ?_;rintro e w7 h7;rcases h7.cases with ⟨f,hr7,q,rfl,hq⟩|⟨_,v7,hr7,rfl,⟨rfl,hp7⟩,hf7⟩;(· exact ⟨rfl,by rw[(HV _ hr1).out,hr5.out];simp only;rw[if_neg (aR hr7).1,<-(aR hr7).2];exact aP.up hF6 ⟨q,rfl,hq⟩⟩);have H7:=blk H6 hC hf7;have K7:=blk K6 hc1 hf7)
  | (refine bP rfl 160 (.tmp 5) rfl ⟨w1.heap.size,0,none⟩ rfl (.agg #[.int .i64 kind,.string ⟨s1.toArray⟩,.int .i64 (-(n:Int))]) (Cr rfl K7) ?_)
  | (refine wpList_store_row rfl 160 (.tmp 4) (.tmp 25) rfl w.heap.size #[.int .i64 kind,.string ⟨s1.toArray⟩,.int .i64 (-(n:Int))] rfl rfl 160 _ H7 Tryz.size160 rfl (tA _ _ _) ?_))
 refine bodyPost_ret (tK _ _ w.heap.size #[.int .i64 kind,.string ⟨s1.toArray⟩,.int .i64 (-(n:Int))] rfl rfl (setRow_heap _ _ _ _ _ _ H7)) rfl ?_
 rw[(HV _ hr1).out,hr5.out]
 simp only
 rw[if_pos (bF hr7)]
 exact ⟨_,rfl,⟨rfl,hp7.row hC _⟩,(hF6.up hf7).row (.inl (Nat.le_refl _)) _⟩
theorem C4 {C:dT}{w:World}{i st ins:Nat}(h:PS C w i st ins 0) (kind:Nat):Calls Tryz.prog 139 #[.pointer (some ⟨C.rb,0,none⟩),.int .i64 kind] w (uJ C (OkV C st ins) w (cZ C.L kind i)):=by
 by_cases hce:tx C.L (i+1)=rG
 ·by_cases hmi:tx C.L (i+2)=tQ
  ·exact C3 h kind hce hmi
  ·exact C2 h kind hce hmi
 ·exact yM h kind hce
end Go.Proofs.YtcdbhoknhnimcaaGreatDoor
