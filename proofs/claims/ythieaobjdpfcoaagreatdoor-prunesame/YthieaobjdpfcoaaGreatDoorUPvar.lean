import Derived.Test.YthieaobjdpfcoaaGreatDoorUPsets
import Derived.Laws.Tables
import Derived.Laws.Rows
set_option maxRecDepth 100000
set_option maxHeartbeats 4000000
namespace Go.Proofs.YthieaobjdpfcoaaGreatDoor
open Go.RowKit Px
theorem PS.put {C:dV}{w:World}{i st ins und b:Nat}(h:PS C w i st ins und) (hb:C.rb<b) (o:Nat) (v:Value):PS C (w.setCell ⟨b,o,none⟩ v) i st ins und:=
 h.low (B:=b) hb ((Fr.refl b [] w).setCell (p:=⟨b,o,none⟩) (.inl (aF4 _)) v)
theorem Fr.row {B:Nat}{X:List Nat}{a w:World}(h:Fr B X a w) {b:Nat}(hp:B≤b\/b∈X) (cs:Array Value):Fr B X a (w.setRow b cs):=
 h.trans ⟨rfl,rfl,rfl,by simp[World.setRow],fun k hk hx=>setRow_other _ _ _ _ (fun e=>by rcases hp with hp|hp;omega;exact hx (e▸hp))⟩
theorem PS.row {C:dV}{w:World}{i st ins und b:Nat}(h:PS C w i st ins und) (hb:C.rb<b) (cs:Array Value):PS C (w.setRow b cs) i st ins und:=
 h.low (B:=b) hb ((Fr.refl _ _ _).row (.inl (aF4 _)) cs)
theorem blk {C:dV}{w w':World}{b:Nat}{o:Obj}(h:w.heap[b]?=some o) (hb:C.rb<b) (c:Fr w.heap.size [C.rb] w w'):w'.heap[b]?=some o:=by
 rw[c.block b (aB h) (by simp;omega)];exact h
theorem mS {w:World}{a b:Nat}{O:Obj}{cs:Array Value}{t:TypeId}(H:w.heap[a]?=some O) (K:w.heap[b]?=some (.cells cs t (0,0))) (hne:a≠b) (o:Nat) (v:Value):(w.setCell ⟨b,o,none⟩ v).heap[a]?=some O/\(w.setCell ⟨b,o,none⟩ v).heap[b]?=some (.cells (cs.setIfInBounds o v) t (0,0)):=
 ⟨by rw[Below.heap_setCell _ _ _ _ hne];exact H,heap_setCell_same w b o _ t _ K⟩
theorem lU {w:World}{b:Nat}{cs:Array Value}{t:TypeId}(K:w.heap[b]?=some (.cells cs t (0,0))) (o:Nat) (v:Value) (hv:cs[o]?=some v):w.cell? ⟨b,o,none⟩=some v/\w.frozen? ⟨b,o,none⟩=false:=
 ⟨by rw[cell_of_row _ _ _ _ _ _ K];exact hv,by simp[World.frozen?,K]⟩
theorem dS {C:dV}{w:World}{i st ins c:Nat}(h:PS C w i st ins c) (s:ByteArray) (k:bE) (r:bs s=k) (j:k≠[]):Calls Tryz.prog 109 #[.pointer (some ⟨C.rb,0,none⟩),.string s] w fun e w'=>e=.returned (.bool (decide (tx C.L i=k)))/\PS C w' (kH C.L k i) st ins c/\Fr w.heap.size [C.rb] w w':=by
 subst r
 by_cases ht:tx C.L i=bs s
 ·refine (dM h s ht j).mono ?_
  rintro e w' ⟨rfl,l,n⟩
  exact ⟨by rw[decide_eq_true ht],by rw[kH,if_pos ht];exact l,n⟩
 ·refine (cN h s ht).mono ?_
  rintro e w' ⟨rfl,l,n⟩
  exact ⟨by rw[decide_eq_false ht],by rw[kH,if_neg ht];exact l,n.wide⟩
theorem Tryz.size126:(Tryz.prog.info? 126).map (·.size)=some 3:=by kernel_rfl
theorem uV (c:Array Value) (W:World) (g:Nat) (h:Array Value) (hsz:h.size=3) (k:c.getD 4 undef=.pointer (some ⟨g,0,none⟩)) (n:W.heap[g]?=some (.cells h 126 (0,0))) :
    (results Tryz.f108 c).run Tryz.prog W=.ok (.agg h) W:=by
 have l:=run_loadVar_row (P:=Tryz.prog) W g 126 126 h (0,0) _ n Tryz.underlying126 rfl (by rw[hsz];exact Tryz.size126)
 have j:c[4]?.getD undef=.pointer (some ⟨g,0,none⟩):=by simpa using k
 simp[results,Tryz.results108,j,asAddr,l]
def OkV (C:dV) (st ins:Nat) (p:bQ×Nat) (v:Value) (w':World):Prop:=v=.agg #[.int .i64 p.1.kind,sv p.1.name,.int .i64 p.1.first]/\PS C w' p.2 st ins 0
theorem Fa {W:World}{g:Nat}{fc:Array Value}(hsz:fc.size=3) (hg:W.heap[g]?=some (.cells fc 126 (0,0))):(loadVar 126 ⟨g,0,none⟩).run Tryz.prog W=.ok (.agg fc) W:=
 run_loadVar_row (P:=Tryz.prog) W g 126 126 fc (0,0) _ hg Tryz.underlying126 rfl (by rw[hsz];exact Tryz.size126)
theorem uL (a b:Int) (s:ByteArray):(#[Value.int .i64 a,.string s,.int .i64 b]:Array Value).all (·.oneCell')=true:=by simp[Value.oneCell']
theorem zV {C:dV}{w:World}{i st ins:Nat}(h:PS C w i st ins 0) (kind:Nat) (I:tx C.L (i+1)≠rZ):Calls Tryz.prog 108 #[.pointer (some ⟨C.rb,0,none⟩),.int .i64 kind] w (vU C (OkV C st ins) w (dC C.L kind i)):=by
 have Q:=h.lts.1
 obtain ⟨Z,u⟩:=h.alloc (.cells #[.int .i64 0,.string ⟨#[]⟩,.int .i64 0] 126)
 have H0:(w.alloc (.cells #[.int .i64 0,.string ⟨#[]⟩,.int .i64 0] 126)).heap[w.heap.size]?=some (.cells #[.int .i64 0,.string ⟨#[]⟩,.int .i64 0] 126 (0,0)):=heap_alloc_new _ _
 have J:Hid _:=I
 have HV:∀s,Hid (nm C.L i=.ok s)->Hid (dC C.L kind i=if tx C.L (i+1)=fE then .ok (⟨kind,s,0⟩,i+2) else .error (3,pl C.L (i+1))):=fun s hs=>by
  rw[Hid,dC,hs.out,first,if_neg J.out]
 clear I
 go_enter Tryz.func108,Tryz.ntmps108
 go_wp2_with (first
  | (go_at_call 102;refine (eZ Z).mono ?_;rintro e w1 h1;rcases h1.cases with ⟨f,c,q,rfl,X⟩|⟨y,v1,c,rfl,⟨rfl,D⟩,l⟩;(· exact ⟨rfl,by rw[dC,c.out];exact aR.up u ⟨q,rfl,X⟩⟩);rw[sv];have H1:=blk H0 Q l;clear H0;obtain ⟨U,n⟩:=D.alloc (.cells #[.int .i64 kind,.string ⟨y.toArray⟩,.int .i64 0] 126);have H2:=blk H1 Q n;have O:=D.lts.1;have ab:w.heap.size≠w1.heap.size:=(by (have:=l.size;simp at this;omega));have K2:(w1.alloc (.cells #[.int .i64 kind,.string ⟨y.toArray⟩,.int .i64 0] 126)).heap[w1.heap.size]?=some (.cells #[.int .i64 kind,.string ⟨y.toArray⟩,.int .i64 0] 126 (0,0)):=heap_alloc_new _ _)
  | (go_at_call 109;refine (cN U ⟨#[58,61]⟩ J.out).mono ?_;rintro e w3 ⟨rfl,Y,j⟩;have H3:=blk H2 Q j.wide;have K3:=blk K2 O j.wide)
  | (go_at_call 101;refine (cD Y ⟨#[59]⟩ fE rfl (by decide)).mono ?_;rintro e w4 h4;rcases h4.cases with ⟨f,k,q,rfl,X⟩|⟨_,v4,k,rfl,⟨rfl,aa⟩,r⟩;(· exact ⟨rfl,by rw[(HV _ c).out,if_neg (aV k).1,<-(aV k).2];exact aR.up (((u.up l).up n).up j.wide) ⟨q,rfl,X⟩⟩);have H4:=blk H3 Q r;have K4:=blk K3 O r;clear H3 K3)
  | (refine bT rfl 126 (.tmp 5) rfl ⟨w1.heap.size,0,none⟩ rfl (.agg #[.int .i64 kind,.string ⟨y.toArray⟩,.int .i64 0]) (Fa rfl K4) ?_)
  | (refine wpList_store_row rfl 126 (.tmp 4) (.tmp 25) rfl w.heap.size #[.int .i64 kind,.string ⟨y.toArray⟩,.int .i64 0] rfl rfl 126 _ H4 Tryz.size126 rfl (uL _ _ _) ?_))
 refine aX5 (uV _ _ w.heap.size #[.int .i64 kind,.string ⟨y.toArray⟩,.int .i64 0] rfl rfl (setRow_heap _ _ _ _ _ _ H4)) rfl ?_
 rw[(HV _ c).out,if_pos (bJ k)]
 exact ⟨_,rfl,⟨rfl,aa.row Q _⟩,(((((u.up l).up n).up j.wide).up r).row (.inl (aF4 _)) _)⟩
theorem I9 {C:dV}{w:World}{i st ins:Nat}(h:PS C w i st ins 0) (kind:Nat) (D:tx C.L (i+1)=rZ) (J:tx C.L (i+2)≠vE):Calls Tryz.prog 108 #[.pointer (some ⟨C.rb,0,none⟩),.int .i64 kind] w (vU C (OkV C st ins) w (dC C.L kind i)):=by
 have O:=h.lts.1
 obtain ⟨af,U⟩:=h.alloc (.cells #[.int .i64 0,.string ⟨#[]⟩,.int .i64 0] 126)
 have H0:(w.alloc (.cells #[.int .i64 0,.string ⟨#[]⟩,.int .i64 0] 126)).heap[w.heap.size]?=some (.cells #[.int .i64 0,.string ⟨#[]⟩,.int .i64 0] 126 (0,0)):=heap_alloc_new _ _
 have HV:∀s,Hid (nm C.L i=.ok s)->Hid (dC C.L kind i=match bS C.L (i+2) with | .error x=>.error x | .ok n=>if tx C.L (i+3)=fE then .ok (⟨kind,s,(n:Int)⟩,i+3+1) else .error (3,pl C.L (i+3))):=fun s hs=>by
  rw[Hid,dC,hs.out,first,if_pos D,if_neg J]
  cases bS C.L (i+2)<;>rfl
 have aj:Hid _:=D
 have am:Hid _:=J
 clear D J
 have T1:Hid True:=trivial
 go_enter Tryz.func108,Tryz.ntmps108
 go_wp2_with (first
  | (go_at_call 102;refine (eZ af).mono ?_;rintro e w1 h1;rcases h1.cases with ⟨f,j,q,rfl,Z⟩|⟨X,v1,j,rfl,⟨rfl,ab⟩,l⟩;(· exact ⟨rfl,by rw[dC,j.out];exact aR.up U ⟨q,rfl,Z⟩⟩);rw[sv];have H1:=blk H0 O l;clear H0;obtain ⟨ai,Y⟩:=ab.alloc (.cells #[.int .i64 kind,.string ⟨X.toArray⟩,.int .i64 0] 126);have H2:=blk H1 O Y;have c:=ab.lts.1;have ae:w.heap.size≠w1.heap.size:=(by (have:=l.size;simp at this;omega));have K2:(w1.alloc (.cells #[.int .i64 kind,.string ⟨X.toArray⟩,.int .i64 0] 126)).heap[w1.heap.size]?=some (.cells #[.int .i64 kind,.string ⟨X.toArray⟩,.int .i64 0] 126 (0,0)):=heap_alloc_new _ _)
  | (go_at_call 109;clear T1;refine (dM ai ⟨#[58,61]⟩ aj.out (by decide)).mono ?_;rintro e w3 ⟨rfl,ak,Q⟩;have H3:=blk H2 O Q;have K3:=blk K2 c Q)
  | (go_at_call 109;refine (cN ak ⟨#[45]⟩ am.out).mono ?_;rintro e w4 ⟨rfl,al,u⟩;have H4:=blk H3 O u.wide;have K4:=blk K3 c u.wide;clear H3 K3;have ac:=(((U.up l).up Y).up Q).up u.wide)
  | (go_at_call 149;refine (dP _ _ st ins 0 al).mono ?_;rintro e w5 h5;rcases h5.cases with ⟨f,k,q,rfl,Z⟩|⟨n,v5,k,rfl,⟨rfl,an,ag⟩,I⟩;(· exact ⟨rfl,by rw[(HV _ j).out,k.out];exact aR.up ac ⟨q,rfl,Z⟩⟩);have H5:=blk H4 O I;have K5:=blk K4 c I;clear H4 K4;have ao:(n:Int)<1000000000000000000:=(by omega);have ap:(0:Int)≤n:=(by omega);obtain ⟨k2,z2⟩:=lU K5 2 _ rfl;have ad:=ag.put c 2 (.int .i64 (n:Int));obtain ⟨H6,K6⟩:=mS H5 K5 ae 2 (.int .i64 (n:Int));have aa:Fr w.heap.size [C.rb] w (w5.setCell ⟨w1.heap.size,2,none⟩ (.int .i64 (n:Int))):=(ac.up I).setCell (.inl ((U.up l).size)) _)
  | (go_at_call 101;refine (cD ad ⟨#[59]⟩ fE rfl (by decide)).mono ?_;rintro e w7 h7;rcases h7.cases with ⟨f,r,q,rfl,Z⟩|⟨_,v7,r,rfl,⟨rfl,ah⟩,y⟩;(· exact ⟨rfl,by rw[(HV _ j).out,k.out];simp only;rw[if_neg (aV r).1,<-(aV r).2];exact aR.up aa ⟨q,rfl,Z⟩⟩);have H7:=blk H6 O y;have K7:=blk K6 c y)
  | (refine bT rfl 126 (.tmp 5) rfl ⟨w1.heap.size,0,none⟩ rfl (.agg #[.int .i64 kind,.string ⟨X.toArray⟩,.int .i64 (n:Int)]) (Fa rfl K7) ?_)
  | (refine wpList_store_row rfl 126 (.tmp 4) (.tmp 25) rfl w.heap.size #[.int .i64 kind,.string ⟨X.toArray⟩,.int .i64 (n:Int)] rfl rfl 126 _ H7 Tryz.size126 rfl (uL _ _ _) ?_))
 refine aX5 (uV _ _ w.heap.size #[.int .i64 kind,.string ⟨X.toArray⟩,.int .i64 (n:Int)] rfl rfl (setRow_heap _ _ _ _ _ _ H7)) rfl ?_
 rw[(HV _ j).out,k.out]
 simp only
 rw[if_pos (bJ r)]
 exact ⟨_,rfl,⟨rfl,ah.row O _⟩,(aa.up y).row (.inl (aF4 _)) _⟩
theorem J0 {C:dV}{w:World}{i st ins:Nat}(h:PS C w i st ins 0) (kind:Nat) (I:tx C.L (i+1)=rZ) (O:tx C.L (i+2)=vE):Calls Tryz.prog 108 #[.pointer (some ⟨C.rb,0,none⟩),.int .i64 kind] w (vU C (OkV C st ins) w (dC C.L kind i)):=by
 have Q:=h.lts.1
 obtain ⟨ah,u⟩:=h.alloc (.cells #[.int .i64 0,.string ⟨#[]⟩,.int .i64 0] 126)
 have H0:(w.alloc (.cells #[.int .i64 0,.string ⟨#[]⟩,.int .i64 0] 126)).heap[w.heap.size]?=some (.cells #[.int .i64 0,.string ⟨#[]⟩,.int .i64 0] 126 (0,0)):=heap_alloc_new _ _
 have HV:∀s,Hid (nm C.L i=.ok s)->Hid (dC C.L kind i=match bS C.L (i+3) with | .error x=>.error x | .ok n=>if tx C.L (i+4)=fE then .ok (⟨kind,s,-(n:Int)⟩,i+4+1) else .error (3,pl C.L (i+4))):=fun s hs=>by
  rw[Hid,dC,hs.out,first,if_pos I,if_pos O]
  cases bS C.L (i+3)<;>rfl
 have al:Hid _:=I
 have ao:Hid _:=O
 clear I O
 have T1:Hid True:=trivial
 go_enter Tryz.func108,Tryz.ntmps108
 go_wp2_with (first
  | (go_at_call 102;refine (eZ ah).mono ?_;rintro e w1 h1;rcases h1.cases with ⟨f,k,q,rfl,Z⟩|⟨X,v1,k,rfl,⟨rfl,ac⟩,j⟩;(· exact ⟨rfl,by rw[dC,k.out];exact aR.up u ⟨q,rfl,Z⟩⟩);rw[sv];have H1:=blk H0 Q j;clear H0;obtain ⟨ak,Y⟩:=ac.alloc (.cells #[.int .i64 kind,.string ⟨X.toArray⟩,.int .i64 0] 126);have H2:=blk H1 Q Y;have c:=ac.lts.1;have aa:w.heap.size≠w1.heap.size:=(by (have:=j.size;simp at this;omega));have K2:(w1.alloc (.cells #[.int .i64 kind,.string ⟨X.toArray⟩,.int .i64 0] 126)).heap[w1.heap.size]?=some (.cells #[.int .i64 kind,.string ⟨X.toArray⟩,.int .i64 0] 126 (0,0)):=heap_alloc_new _ _)
  | (go_at_call 109;clear T1;refine (dM ak ⟨#[58,61]⟩ al.out (by decide)).mono ?_;rintro e w3 ⟨rfl,am,U⟩;have H3:=blk H2 Q U;have K3:=blk K2 c U)
  | (go_at_call 109;refine (dM am ⟨#[45]⟩ ao.out (by decide)).mono ?_;rintro e w4 ⟨rfl,an,y⟩;have H4:=blk H3 Q y;have K4:=blk K3 c y;clear H3 K3;have ad:=(((u.up j).up Y).up U).up y)
  | (go_at_call 149;refine (dP _ _ st ins 0 an).mono ?_;rintro e w5 h5;rcases h5.cases with ⟨f,l,q,rfl,Z⟩|⟨n,v5,l,rfl,⟨rfl,ap,ai⟩,J⟩;(· exact ⟨rfl,by rw[(HV _ k).out,l.out];exact aR.up ad ⟨q,rfl,Z⟩⟩);have H5:=blk H4 Q J;have K5:=blk K4 c J;clear H4 K4;have ar:(n:Int)<1000000000000000000:=(by omega);have au:(0:Int)≤n:=(by omega);obtain ⟨k2,z2⟩:=lU K5 2 _ rfl;have af:=(ai.put c 2 (.int .i64 (n:Int))).put c 2 (.int .i64 (-(n:Int)));obtain ⟨ag,ae⟩:=mS H5 K5 aa 2 (.int .i64 (n:Int));obtain ⟨H6,K6⟩:=mS ag ae aa 2 (.int .i64 (-(n:Int)));have ab:=((ad.up J).setCell (p:=⟨w1.heap.size,2,none⟩) (.inl ((u.up j).size)) (.int .i64 (n:Int))).setCell (p:=⟨w1.heap.size,2,none⟩) (.inl ((u.up j).size)) (.int .i64 (-(n:Int))))
  | (go_at_call 101;refine (cD af ⟨#[59]⟩ fE rfl (by decide)).mono ?_;rintro e w7 h7;rcases h7.cases with ⟨f,r,q,rfl,Z⟩|⟨_,v7,r,rfl,⟨rfl,aj⟩,D⟩;(· exact ⟨rfl,by rw[(HV _ k).out,l.out];simp only;rw[if_neg (aV r).1,<-(aV r).2];exact aR.up ab ⟨q,rfl,Z⟩⟩);have H7:=blk H6 Q D;have K7:=blk K6 c D)
  | (refine bT rfl 126 (.tmp 5) rfl ⟨w1.heap.size,0,none⟩ rfl (.agg #[.int .i64 kind,.string ⟨X.toArray⟩,.int .i64 (-(n:Int))]) (Fa rfl K7) ?_)
  | (refine wpList_store_row rfl 126 (.tmp 4) (.tmp 25) rfl w.heap.size #[.int .i64 kind,.string ⟨X.toArray⟩,.int .i64 (-(n:Int))] rfl rfl 126 _ H7 Tryz.size126 rfl (uL _ _ _) ?_))
 refine aX5 (uV _ _ w.heap.size #[.int .i64 kind,.string ⟨X.toArray⟩,.int .i64 (-(n:Int))] rfl rfl (setRow_heap _ _ _ _ _ _ H7)) rfl ?_
 rw[(HV _ k).out,l.out]
 simp only
 rw[if_pos (bJ r)]
 exact ⟨_,rfl,⟨rfl,aj.row Q _⟩,(ab.up D).row (.inl (aF4 _)) _⟩
theorem J1 {C:dV}{w:World}{i st ins:Nat}(h:PS C w i st ins 0) (kind:Nat):Calls Tryz.prog 108 #[.pointer (some ⟨C.rb,0,none⟩),.int .i64 kind] w (vU C (OkV C st ins) w (dC C.L kind i)):=by
 by_cases hce:tx C.L (i+1)=rZ
 ·by_cases hmi:tx C.L (i+2)=vE
  ·exact J0 h kind hce hmi
  ·exact I9 h kind hce hmi
 ·exact zV h kind hce
end Go.Proofs.YthieaobjdpfcoaaGreatDoor
