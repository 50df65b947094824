import Derived.Test.YthieaobjdpfcoaaGreatDoorUPsets
import Derived.Laws.Tables
import Derived.Laws.Rows
set_option maxRecDepth 100000
set_option maxHeartbeats 4000000
namespace Go.Proofs.YthieaobjdpfcoaaGreatDoor
open Go.RowKit Px
theorem PS.put {C:dV}{w:World}{i st ins und b:Nat}(h:PS C w i st ins und) (hb:C.rb<b) (o:Nat) (v:Value):PS C (w.setCell ⟨b,o,none⟩ v) i st ins und:=
 h.low (B:=b) hb ((Fr.refl b [] w).setCell (p:=⟨b,o,none⟩) (.inl (aF4 _)) v)
theorem Fr.row {B:Nat}{X:List Nat}{a w:World}(h:Fr B X a w) {b:Nat}(hp:B≤b\/b∈X) (cs:Array Value):Fr B X a (w.setRow b cs):=
 h.trans ⟨rfl,rfl,rfl,by simp[World.setRow],fun k hk hx=>setRow_other _ _ _ _ (fun e=>by rcases hp with hp|hp;omega;exact hx (e▸hp))⟩
theorem PS.row {C:dV}{w:World}{i st ins und b:Nat}(h:PS C w i st ins und) (hb:C.rb<b) (cs:Array Value):PS C (w.setRow b cs) i st ins und:=
 h.low (B:=b) hb ((Fr.refl _ _ _).row (.inl (aF4 _)) cs)
theorem blk {C:dV}{w w':World}{b:Nat}{o:Obj}(h:w.heap[b]?=some o) (hb:C.rb<b) (c:Fr w.heap.size [C.rb] w w'):w'.heap[b]?=some o:=by
 rw[c.block b (aB h) (by simp;omega)];exact h
theorem mS {w:World}{a b:Nat}{O:Obj}{cs:Array Value}{t:TypeId}(H:w.heap[a]?=some O) (K:w.heap[b]?=some (.cells cs t (0,0))) (hne:a≠b) (o:Nat) (v:Value):(w.setCell ⟨b,o,none⟩ v).heap[a]?=some O/\(w.setCell ⟨b,o,none⟩ v).heap[b]?=some (.cells (cs.setIfInBounds o v) t (0,0)):=
 ⟨by rw[Below.heap_setCell _ _ _ _ hne];exact H,heap_setCell_same w b o _ t _ K⟩
theorem lU {w:World}{b:Nat}{cs:Array Value}{t:TypeId}(K:w.heap[b]?=some (.cells cs t (0,0))) (o:Nat) (v:Value) (hv:cs[o]?=some v):w.cell? ⟨b,o,none⟩=some v/\w.frozen? ⟨b,o,none⟩=false:=
 ⟨by rw[cell_of_row _ _ _ _ _ _ K];exact hv,by simp[World.frozen?,K]⟩
theorem dS {C:dV}{w:World}{i st ins c:Nat}(h:PS C w i st ins c) (s:ByteArray) (k:bE) (r:bs s=k) (n:k≠[]):Calls Tryz.prog 109 #[.pointer (some ⟨C.rb,0,none⟩),.string s] w fun e w'=>e=.returned (.bool (decide (tx C.L i=k)))/\PS C w' (kH C.L k i) st ins c/\Fr w.heap.size [C.rb] w w':=by
 subst r
 by_cases ht:tx C.L i=bs s
 ·refine (dM h s ht n).mono ?_
  rintro e w' ⟨rfl,j,l⟩
  exact ⟨by rw[decide_eq_true ht],by rw[kH,if_pos ht];exact j,l⟩
 ·refine (cN h s ht).mono ?_
  rintro e w' ⟨rfl,j,l⟩
  exact ⟨by rw[decide_eq_false ht],by rw[kH,if_neg ht];exact j,l.wide⟩
theorem Tryz.size126:(Tryz.prog.info? 126).map (·.size)=some 3:=by kernel_rfl
theorem uV (c:Array Value) (W:World) (g:Nat) (h:Array Value) (hsz:h.size=3) (n:c.getD 4 undef=.pointer (some ⟨g,0,none⟩)) (k:W.heap[g]?=some (.cells h 126 (0,0))) :
    (results Tryz.f108 c).run Tryz.prog W=.ok (.agg h) W:=by
 have l:=run_loadVar_row (P:=Tryz.prog) W g 126 126 h (0,0) _ k Tryz.underlying126 rfl (by rw[hsz];exact Tryz.size126)
 have j:c[4]?.getD undef=.pointer (some ⟨g,0,none⟩):=by simpa using n
 simp[results,Tryz.results108,j,asAddr,l]
def OkV (C:dV) (st ins:Nat) (p:bQ×Nat) (v:Value) (w':World):Prop:=v=.agg #[.int .i64 p.1.kind,sv p.1.name,.int .i64 p.1.first]/\PS C w' p.2 st ins 0
theorem Fa {W:World}{g:Nat}{fc:Array Value}(hsz:fc.size=3) (hg:W.heap[g]?=some (.cells fc 126 (0,0))):(loadVar 126 ⟨g,0,none⟩).run Tryz.prog W=.ok (.agg fc) W:=
 run_loadVar_row (P:=Tryz.prog) W g 126 126 fc (0,0) _ hg Tryz.underlying126 rfl (by rw[hsz];exact Tryz.size126)
theorem uL (a b:Int) (s:ByteArray):(#[Value.int .i64 a,.string s,.int .i64 b]:Array Value).all (·.oneCell')=true:=by simp[Value.oneCell']
theorem zV {C:dV}{w:World}{i st ins:Nat}(h:PS C w i st ins 0) (kind:Nat) (O:tx C.L (i+1)≠rZ):Calls Tryz.prog 108 #[.pointer (some ⟨C.rb,0,none⟩),.int .i64 kind] w (vU C (OkV C st ins) w (dC C.L kind i)):=by
 have Q:=h.lts.1
 obtain ⟨U,u⟩:=h.alloc (.cells #[.int .i64 0,.string ⟨#[]⟩,.int .i64 0] 126)
 have H0:(w.alloc (.cells #[.int .i64 0,.string ⟨#[]⟩,.int .i64 0] 126)).heap[w.heap.size]?=some (.cells #[.int .i64 0,.string ⟨#[]⟩,.int .i64 0] 126 (0,0)):=heap_alloc_new _ _
 have J:Hid _:=O
 have HV:∀s,Hid (nm C.L i=.ok s)->Hid (dC C.L kind i=if tx C.L (i+1)=fE then .ok (⟨kind,s,0⟩,i+2) else .error (3,pl C.L (i+1))):=fun s hs=>by
  rw[Hid,dC,hs.out,first,if_neg J.out]
 clear O
 go_enter Tryz.func108,Tryz.ntmps108
 go_wp2_with (first
  | (go_at_call 102;refine (eZ U).mono ?_;rintro e w1 h1;rcases h1.cases with ⟨f,c,q,rfl,X⟩|⟨y,v1,c,rfl,⟨rfl,D⟩,j⟩;(· exact ⟨rfl,by rw[dC,c.out];exact aR.up u ⟨q,rfl,X⟩⟩);rw[sv];have H1:=blk H0 Q j;clear H0;obtain ⟨Y,r⟩:=D.alloc (.cells #[.int .i64 kind,.string ⟨y.toArray⟩,.int .i64 0] 126);have H2:=blk H1 Q r;have I:=D.lts.1;have ab:w.heap.size≠w1.heap.size:=(by (have:=j.size;simp at this;omega));have K2:(w1.alloc (.cells #[.int .i64 kind,.string ⟨y.toArray⟩,.int .i64 0] 126)).heap[w1.heap.size]?=some (.cells #[.int .i64 kind,.string ⟨y.toArray⟩,.int .i64 0] 126 (0,0)):=heap_alloc_new _ _)
  | (go_at_call 109;refine (cN Y ⟨#[58,61]⟩ J.out).mono ?_;rintro e w3 ⟨rfl,aa,k⟩;have H3:=blk H2 Q k.wide;have K3:=blk K2 I k.wide)
  | (go_at_call 101;refine (cD aa ⟨#[59]⟩ fE rfl (by decide)).mono ?_;rintro e w4 h4;rcases h4.cases with ⟨f,l,q,rfl,X⟩|⟨_,v4,l,rfl,⟨rfl,Z⟩,n⟩;(· exact ⟨rfl,by rw[(HV _ c).out,if_neg (aV l).1,<-(aV l).2];exact aR.up (((u.up j).up r).up k.wide) ⟨q,rfl,X⟩⟩);have H4:=blk H3 Q n;have K4:=blk K3 I n;clear H3 K3)
  | (refine bT rfl 126 (.tmp 5) rfl ⟨w1.heap.size,0,none⟩ rfl (.agg #[.int .i64 kind,.string ⟨y.toArray⟩,.int .i64 0]) (Fa rfl K4) ?_)
  | (refine wpList_store_row rfl 126 (.tmp 4) (.tmp 25) rfl w.heap.size #[.int .i64 kind,.string ⟨y.toArray⟩,.int .i64 0] rfl rfl 126 _ H4 Tryz.size126 rfl (uL _ _ _) ?_))
 refine aX5 (uV _ _ w.heap.size #[.int .i64 kind,.string ⟨y.toArray⟩,.int .i64 0] rfl rfl (setRow_heap _ _ _ _ _ _ H4)) rfl ?_
 rw[(HV _ c).out,if_pos (bJ l)]
 exact ⟨_,rfl,⟨rfl,Z.row Q _⟩,(((((u.up j).up r).up k.wide).up n).row (.inl (aF4 _)) _)⟩
theorem I9 {C:dV}{w:World}{i st ins:Nat}(h:PS C w i st ins 0) (kind:Nat) (O:tx C.L (i+1)=rZ) (J:tx C.L (i+2)≠vE):Calls Tryz.prog 108 #[.pointer (some ⟨C.rb,0,none⟩),.int .i64 kind] w (vU C (OkV C st ins) w (dC C.L kind i)):=by
 have D:=h.lts.1
 obtain ⟨ad,Q⟩:=h.alloc (.cells #[.int .i64 0,.string ⟨#[]⟩,.int .i64 0] 126)
 have H0:(w.alloc (.cells #[.int .i64 0,.string ⟨#[]⟩,.int .i64 0] 126)).heap[w.heap.size]?=some (.cells #[.int .i64 0,.string ⟨#[]⟩,.int .i64 0] 126 (0,0)):=heap_alloc_new _ _
 have HV:∀s,Hid (nm C.L i=.ok s)->Hid (dC C.L kind i=match bS C.L (i+2) with | .error x=>.error x | .ok n=>if tx C.L (i+3)=fE then .ok (⟨kind,s,(n:Int)⟩,i+3+1) else .error (3,pl C.L (i+3))):=fun s hs=>by
  rw[Hid,dC,hs.out,first,if_pos O,if_neg J]
  cases bS C.L (i+2)<;>rfl
 have af:Hid _:=O
 have ak:Hid _:=J
 clear O J
 have T1:Hid True:=trivial
 go_enter Tryz.func108,Tryz.ntmps108
 go_wp2_with (first
  | (go_at_call 102;refine (eZ ad).mono ?_;rintro e w1 h1;rcases h1.cases with ⟨f,c,q,rfl,Y⟩|⟨X,v1,c,rfl,⟨rfl,ac⟩,k⟩;(· exact ⟨rfl,by rw[dC,c.out];exact aR.up Q ⟨q,rfl,Y⟩⟩);rw[sv];have H1:=blk H0 D k;clear H0;obtain ⟨aj,Z⟩:=ac.alloc (.cells #[.int .i64 kind,.string ⟨X.toArray⟩,.int .i64 0] 126);have H2:=blk H1 D Z;have j:=ac.lts.1;have am:w.heap.size≠w1.heap.size:=(by (have:=k.size;simp at this;omega));have K2:(w1.alloc (.cells #[.int .i64 kind,.string ⟨X.toArray⟩,.int .i64 0] 126)).heap[w1.heap.size]?=some (.cells #[.int .i64 kind,.string ⟨X.toArray⟩,.int .i64 0] 126 (0,0)):=heap_alloc_new _ _)
  | (go_at_call 109;clear T1;refine (dM aj ⟨#[58,61]⟩ af.out (by decide)).mono ?_;rintro e w3 ⟨rfl,ai,I⟩;have H3:=blk H2 D I;have K3:=blk K2 j I)
  | (go_at_call 109;refine (cN ai ⟨#[45]⟩ ak.out).mono ?_;rintro e w4 ⟨rfl,ah,y⟩;have H4:=blk H3 D y.wide;have K4:=blk K3 j y.wide;clear H3 K3;have ab:=(((Q.up k).up Z).up I).up y.wide)
  | (go_at_call 149;refine (dP _ _ st ins 0 ah).mono ?_;rintro e w5 h5;rcases h5.cases with ⟨f,r,q,rfl,Y⟩|⟨n,v5,r,rfl,⟨rfl,an,al⟩,U⟩;(· exact ⟨rfl,by rw[(HV _ c).out,r.out];exact aR.up ab ⟨q,rfl,Y⟩⟩);have H5:=blk H4 D U;have K5:=blk K4 j U;clear H4 K4;have ao:(n:Int)<1000000000000000000:=(by omega);have ap:(0:Int)≤n:=(by omega);obtain ⟨k2,z2⟩:=lU K5 2 _ rfl;have ag:=al.put j 2 (.int .i64 (n:Int));obtain ⟨H6,K6⟩:=mS H5 K5 am 2 (.int .i64 (n:Int));have aa:Fr w.heap.size [C.rb] w (w5.setCell ⟨w1.heap.size,2,none⟩ (.int .i64 (n:Int))):=(ab.up U).setCell (.inl ((Q.up k).size)) _)
  | (go_at_call 101;refine (cD ag ⟨#[59]⟩ fE rfl (by decide)).mono ?_;rintro e w7 h7;rcases h7.cases with ⟨f,l,q,rfl,Y⟩|⟨_,v7,l,rfl,⟨rfl,ae⟩,u⟩;(· exact ⟨rfl,by rw[(HV _ c).out,r.out];simp only;rw[if_neg (aV l).1,<-(aV l).2];exact aR.up aa ⟨q,rfl,Y⟩⟩);have H7:=blk H6 D u;have K7:=blk K6 j u)
  | (refine bT rfl 126 (.tmp 5) rfl ⟨w1.heap.size,0,none⟩ rfl (.agg #[.int .i64 kind,.string ⟨X.toArray⟩,.int .i64 (n:Int)]) (Fa rfl K7) ?_)
  | (refine wpList_store_row rfl 126 (.tmp 4) (.tmp 25) rfl w.heap.size #[.int .i64 kind,.string ⟨X.toArray⟩,.int .i64 (n:Int)] rfl rfl 126 _ H7 Tryz.size126 rfl (uL _ _ _) ?_))
 refine aX5 (uV _ _ w.heap.size #[.int .i64 kind,.string ⟨X.toArray⟩,.int .i64 (n:Int)] rfl rfl (setRow_heap _ _ _ _ _ _ H7)) rfl ?_
 rw[(HV _ c).out,r.out]
 simp only
 rw[if_pos (bJ l)]
 exact ⟨_,rfl,⟨rfl,ae.row D _⟩,(aa.up u).row (.inl (aF4 _)) _⟩
theorem J0 {C:dV}{w:World}{i st ins:Nat}(h:PS C w i st ins 0) (kind:Nat) (Q:tx C.L (i+1)=rZ) (O:tx C.L (i+2)=vE):Calls Tryz.prog 108 #[.pointer (some ⟨C.rb,0,none⟩),.int .i64 kind] w (vU C (OkV C st ins) w (dC C.L kind i)):=by
 have I:=h.lts.1
 obtain ⟨ae,u⟩:=h.alloc (.cells #[.int .i64 0,.string ⟨#[]⟩,.int .i64 0] 126)
 have H0:(w.alloc (.cells #[.int .i64 0,.string ⟨#[]⟩,.int .i64 0] 126)).heap[w.heap.size]?=some (.cells #[.int .i64 0,.string ⟨#[]⟩,.int .i64 0] 126 (0,0)):=heap_alloc_new _ _
 have HV:∀s,Hid (nm C.L i=.ok s)->Hid (dC C.L kind i=match bS C.L (i+3) with | .error x=>.error x | .ok n=>if tx C.L (i+4)=fE then .ok (⟨kind,s,-(n:Int)⟩,i+4+1) else .error (3,pl C.L (i+4))):=fun s hs=>by
  rw[Hid,dC,hs.out,first,if_pos Q,if_pos O]
  cases bS C.L (i+3)<;>rfl
 have ah:Hid _:=Q
 have an:Hid _:=O
 clear Q O
 have T1:Hid True:=trivial
 go_enter Tryz.func108,Tryz.ntmps108
 go_wp2_with (first
  | (go_at_call 102;refine (eZ ae).mono ?_;rintro e w1 h1;rcases h1.cases with ⟨f,j,q,rfl,Y⟩|⟨X,v1,j,rfl,⟨rfl,ac⟩,k⟩;(· exact ⟨rfl,by rw[dC,j.out];exact aR.up u ⟨q,rfl,Y⟩⟩);rw[sv];have H1:=blk H0 I k;clear H0;obtain ⟨am,Z⟩:=ac.alloc (.cells #[.int .i64 kind,.string ⟨X.toArray⟩,.int .i64 0] 126);have H2:=blk H1 I Z;have c:=ac.lts.1;have ad:w.heap.size≠w1.heap.size:=(by (have:=k.size;simp at this;omega));have K2:(w1.alloc (.cells #[.int .i64 kind,.string ⟨X.toArray⟩,.int .i64 0] 126)).heap[w1.heap.size]?=some (.cells #[.int .i64 kind,.string ⟨X.toArray⟩,.int .i64 0] 126 (0,0)):=heap_alloc_new _ _)
  | (go_at_call 109;clear T1;refine (dM am ⟨#[58,61]⟩ ah.out (by decide)).mono ?_;rintro e w3 ⟨rfl,ak,J⟩;have H3:=blk H2 I J;have K3:=blk K2 c J)
  | (go_at_call 109;refine (dM ak ⟨#[45]⟩ an.out (by decide)).mono ?_;rintro e w4 ⟨rfl,aj,D⟩;have H4:=blk H3 I D;have K4:=blk K3 c D;clear H3 K3;have ab:=(((u.up k).up Z).up J).up D)
  | (go_at_call 149;refine (dP _ _ st ins 0 aj).mono ?_;rintro e w5 h5;rcases h5.cases with ⟨f,r,q,rfl,Y⟩|⟨n,v5,r,rfl,⟨rfl,ap,ao⟩,U⟩;(· exact ⟨rfl,by rw[(HV _ j).out,r.out];exact aR.up ab ⟨q,rfl,Y⟩⟩);have H5:=blk H4 I U;have K5:=blk K4 c U;clear H4 K4;have ar:(n:Int)<1000000000000000000:=(by omega);have au:(0:Int)≤n:=(by omega);obtain ⟨k2,z2⟩:=lU K5 2 _ rfl;have ai:=(ao.put c 2 (.int .i64 (n:Int))).put c 2 (.int .i64 (-(n:Int)));obtain ⟨al,af⟩:=mS H5 K5 ad 2 (.int .i64 (n:Int));obtain ⟨H6,K6⟩:=mS al af ad 2 (.int .i64 (-(n:Int)));have aa:=((ab.up U).setCell (p:=⟨w1.heap.size,2,none⟩) (.inl ((u.up k).size)) (.int .i64 (n:Int))).setCell (p:=⟨w1.heap.size,2,none⟩) (.inl ((u.up k).size)) (.int .i64 (-(n:Int))))
  | (go_at_call 101;refine (cD ai ⟨#[59]⟩ fE rfl (by decide)).mono ?_;rintro e w7 h7;rcases h7.cases with ⟨f,l,q,rfl,Y⟩|⟨_,v7,l,rfl,⟨rfl,ag⟩,y⟩;(· exact ⟨rfl,by rw[(HV _ j).out,r.out];simp only;rw[if_neg (aV l).1,<-(aV l).2];exact aR.up aa ⟨q,rfl,Y⟩⟩);have H7:=blk H6 I y;have K7:=blk K6 c y)
  | (refine bT rfl 126 (.tmp 5) rfl ⟨w1.heap.size,0,none⟩ rfl (.agg #[.int .i64 kind,.string ⟨X.toArray⟩,.int .i64 (-(n:Int))]) (Fa rfl K7) ?_)
  | (refine wpList_store_row rfl 126 (.tmp 4) (.tmp 25) rfl w.heap.size #[.int .i64 kind,.string ⟨X.toArray⟩,.int .i64 (-(n:Int))] rfl rfl 126 _ H7 Tryz.size126 rfl (uL _ _ _) ?_))
 refine aX5 (uV _ _ w.heap.size #[.int .i64 kind,.string ⟨X.toArray⟩,.int .i64 (-(n:Int))] rfl rfl (setRow_heap _ _ _ _ _ _ H7)) rfl ?_
 rw[(HV _ j).out,r.out]
 simp only
 rw[if_pos (bJ l)]
 exact ⟨_,rfl,⟨rfl,ag.row I _⟩,(aa.up y).row (.inl (aF4 _)) _⟩
theorem J1 {C:dV}{w:World}{i st ins:Nat}(h:PS C w i st ins 0) (kind:Nat):Calls Tryz.prog 108 #[.pointer (some ⟨C.rb,0,none⟩),.int .i64 kind] w (vU C (OkV C st ins) w (dC C.L kind i)):=by
 by_cases hce:tx C.L (i+1)=rZ
 ·by_cases hmi:tx C.L (i+2)=vE
  ·exact J0 h kind hce hmi
  ·exact I9 h kind hce hmi
 ·exact zV h kind hce
end Go.Proofs.YthieaobjdpfcoaaGreatDoor
