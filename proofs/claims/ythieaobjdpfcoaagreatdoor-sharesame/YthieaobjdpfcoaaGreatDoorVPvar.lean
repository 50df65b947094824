import Derived.Test.YthieaobjdpfcoaaGreatDoorVPsets
import Derived.Laws.Tables
import Derived.Laws.Rows
set_option maxRecDepth 100000
set_option maxHeartbeats 4000000
namespace Go.Proofs.YthieaobjdpfcoaaGreatDoor
open Go.RowKit Px
theorem PS.put {C:dV}{w:World}{i st ins und b:Nat}(h:PS C w i st ins und) (hb:C.rb<b) (o:Nat) (v:Value):PS C (w.setCell ⟨b,o,none⟩ v) i st ins und:=
 h.low (B:=b) hb ((Fr.refl b [] w).setCell (p:=⟨b,o,none⟩) (.inl (aN4 _)) v)
theorem Fr.row {B:Nat}{X:List Nat}{a w:World}(h:Fr B X a w) {b:Nat}(hp:B≤b\/b∈X) (cs:Array Value):Fr B X a (w.setRow b cs):=
 h.trans ⟨rfl,rfl,rfl,by simp[World.setRow],fun k hk hx=>setRow_other _ _ _ _ (fun e=>by rcases hp with hp|hp;omega;exact hx (e▸hp))⟩
theorem PS.row {C:dV}{w:World}{i st ins und b:Nat}(h:PS C w i st ins und) (hb:C.rb<b) (cs:Array Value):PS C (w.setRow b cs) i st ins und:=
 h.low (B:=b) hb ((Fr.refl _ _ _).row (.inl (aN4 _)) cs)
theorem blk {C:dV}{w w':World}{b:Nat}{o:Obj}(h:w.heap[b]?=some o) (hb:C.rb<b) (c:Fr w.heap.size [C.rb] w w'):w'.heap[b]?=some o:=by
 rw[c.block b (aB h) (by simp;omega)];exact h
theorem mS {w:World}{a b:Nat}{O:Obj}{cs:Array Value}{t:TypeId}(H:w.heap[a]?=some O) (K:w.heap[b]?=some (.cells cs t (0,0))) (hne:a≠b) (o:Nat) (v:Value):(w.setCell ⟨b,o,none⟩ v).heap[a]?=some O/\(w.setCell ⟨b,o,none⟩ v).heap[b]?=some (.cells (cs.setIfInBounds o v) t (0,0)):=
 ⟨by rw[Below.heap_setCell _ _ _ _ hne];exact H,heap_setCell_same w b o _ t _ K⟩
theorem lU {w:World}{b:Nat}{cs:Array Value}{t:TypeId}(K:w.heap[b]?=some (.cells cs t (0,0))) (o:Nat) (v:Value) (hv:cs[o]?=some v):w.cell? ⟨b,o,none⟩=some v/\w.frozen? ⟨b,o,none⟩=false:=
 ⟨by rw[cell_of_row _ _ _ _ _ _ K];exact hv,by simp[World.frozen?,K]⟩
theorem dS {C:dV}{w:World}{i st ins c:Nat}(h:PS C w i st ins c) (s:ByteArray) (k:bE) (r:bs s=k) (n:k≠[]):Calls Tryz.prog 109 #[.pointer (some ⟨C.rb,0,none⟩),.string s] w fun e w'=>e=.returned (.bool (decide (tx C.L i=k)))/\PS C w' (kH C.L k i) st ins c/\Fr w.heap.size [C.rb] w w':=by
 subst r
 by_cases ht:tx C.L i=bs s
 ·refine (dM h s ht n).mono ?_
  rintro e w' ⟨rfl,j,l⟩
  exact ⟨by rw[decide_eq_true ht],by rw[kH,if_pos ht];exact j,l⟩
 ·refine (cN h s ht).mono ?_
  rintro e w' ⟨rfl,j,l⟩
  exact ⟨by rw[decide_eq_false ht],by rw[kH,if_neg ht];exact j,l.wide⟩
theorem Tryz.size126:(Tryz.prog.info? 126).map (·.size)=some 3:=by kernel_rfl
theorem uV (c:Array Value) (W:World) (g:Nat) (h:Array Value) (hsz:h.size=3) (k:c.getD 4 undef=.pointer (some ⟨g,0,none⟩)) (l:W.heap[g]?=some (.cells h 126 (0,0))) :
    (results Tryz.f108 c).run Tryz.prog W=.ok (.agg h) W:=by
 have n:=run_loadVar_row (P:=Tryz.prog) W g 126 126 h (0,0) _ l Tryz.underlying126 rfl (by rw[hsz];exact Tryz.size126)
 have j:c[4]?.getD undef=.pointer (some ⟨g,0,none⟩):=by simpa using k
 simp[results,Tryz.results108,j,asAddr,n]
def tR (C:dV) (st ins:Nat) (p:bQ×Nat) (v:Value) (w':World):Prop:=v=.agg #[.int .i64 p.1.kind,sv p.1.name,.int .i64 p.1.first]/\PS C w' p.2 st ins 0
theorem Fa {W:World}{g:Nat}{fc:Array Value}(hsz:fc.size=3) (hg:W.heap[g]?=some (.cells fc 126 (0,0))):(loadVar 126 ⟨g,0,none⟩).run Tryz.prog W=.ok (.agg fc) W:=
 run_loadVar_row (P:=Tryz.prog) W g 126 126 fc (0,0) _ hg Tryz.underlying126 rfl (by rw[hsz];exact Tryz.size126)
theorem uL (a b:Int) (s:ByteArray):(#[Value.int .i64 a,.string s,.int .i64 b]:Array Value).all (·.oneCell')=true:=by simp[Value.oneCell']
theorem zV {C:dV}{w:World}{i st ins:Nat}(h:PS C w i st ins 0) (kind:Nat) (O:tx C.L (i+1)≠rZ):Calls Tryz.prog 108 #[.pointer (some ⟨C.rb,0,none⟩),.int .i64 kind] w (vU C (tR C st ins) w (dC C.L kind i)):=by
 have I:=h.lts.1
 obtain ⟨Z,n⟩:=h.alloc (.cells #[.int .i64 0,.string ⟨#[]⟩,.int .i64 0] 126)
 have H0:(w.alloc (.cells #[.int .i64 0,.string ⟨#[]⟩,.int .i64 0] 126)).heap[w.heap.size]?=some (.cells #[.int .i64 0,.string ⟨#[]⟩,.int .i64 0] 126 (0,0)):=heap_alloc_new _ _
 have J:Hid _:=O
 have HV:∀s,Hid (nm C.L i=.ok s)->Hid (dC C.L kind i=if tx C.L (i+1)=fE then .ok (⟨kind,s,0⟩,i+2) else .error (3,pl C.L (i+1))):=fun s hs=>by
  rw[Hid,dC,hs.out,first,if_neg J.out]
 clear O
 go_enter Tryz.func108,Tryz.ntmps108
 go_wp2_with (first
  | (go_at_call 102;refine (eZ Z).mono ?_;rintro e w1 h1;rcases h1.cases with ⟨f,k,q,rfl,U⟩|⟨y,v1,k,rfl,⟨rfl,D⟩,l⟩;(· exact ⟨rfl,by rw[dC,k.out];exact aR.up n ⟨q,rfl,U⟩⟩);rw[sv];have H1:=blk H0 I l;clear H0;obtain ⟨Y,u⟩:=D.alloc (.cells #[.int .i64 kind,.string ⟨y.toArray⟩,.int .i64 0] 126);have H2:=blk H1 I u;have Q:=D.lts.1;have ab:w.heap.size≠w1.heap.size:=(by (have:=l.size;simp at this;omega));have K2:(w1.alloc (.cells #[.int .i64 kind,.string ⟨y.toArray⟩,.int .i64 0] 126)).heap[w1.heap.size]?=some (.cells #[.int .i64 kind,.string ⟨y.toArray⟩,.int .i64 0] 126 (0,0)):=heap_alloc_new _ _)
  | (go_at_call 109;refine (cN Y ⟨#[58,61]⟩ J.out).mono ?_;rintro e w3 ⟨rfl,X,j⟩;have H3:=blk H2 I j.wide;have K3:=blk K2 Q j.wide)
  | (go_at_call 101;refine (cD X ⟨#[59]⟩ fE rfl (by decide)).mono ?_;rintro e w4 h4;rcases h4.cases with ⟨f,c,q,rfl,U⟩|⟨_,v4,c,rfl,⟨rfl,aa⟩,r⟩;(· exact ⟨rfl,by rw[(HV _ k).out,if_neg (aV c).1,<-(aV c).2];exact aR.up (((n.up l).up u).up j.wide) ⟨q,rfl,U⟩⟩);have H4:=blk H3 I r;have K4:=blk K3 Q r;clear H3 K3)
  | (refine cM rfl 126 (.tmp 5) rfl ⟨w1.heap.size,0,none⟩ rfl (.agg #[.int .i64 kind,.string ⟨y.toArray⟩,.int .i64 0]) (Fa rfl K4) ?_)
  | (refine wpList_store_row rfl 126 (.tmp 4) (.tmp 25) rfl w.heap.size #[.int .i64 kind,.string ⟨y.toArray⟩,.int .i64 0] rfl rfl 126 _ H4 Tryz.size126 rfl (uL _ _ _) ?_))
 refine aY7 (uV _ _ w.heap.size #[.int .i64 kind,.string ⟨y.toArray⟩,.int .i64 0] rfl rfl (setRow_heap _ _ _ _ _ _ H4)) rfl ?_
 rw[(HV _ k).out,if_pos (bJ c)]
 exact ⟨_,rfl,⟨rfl,aa.row I _⟩,(((((n.up l).up u).up j.wide).up r).row (.inl (aN4 _)) _)⟩
theorem I9 {C:dV}{w:World}{i st ins:Nat}(h:PS C w i st ins 0) (kind:Nat) (Q:tx C.L (i+1)=rZ) (y:tx C.L (i+2)≠vE):Calls Tryz.prog 108 #[.pointer (some ⟨C.rb,0,none⟩),.int .i64 kind] w (vU C (tR C st ins) w (dC C.L kind i)):=by
 have D:=h.lts.1
 obtain ⟨aj,J⟩:=h.alloc (.cells #[.int .i64 0,.string ⟨#[]⟩,.int .i64 0] 126)
 have H0:(w.alloc (.cells #[.int .i64 0,.string ⟨#[]⟩,.int .i64 0] 126)).heap[w.heap.size]?=some (.cells #[.int .i64 0,.string ⟨#[]⟩,.int .i64 0] 126 (0,0)):=heap_alloc_new _ _
 have HV:∀s,Hid (nm C.L i=.ok s)->Hid (dC C.L kind i=match bS C.L (i+2) with | .error x=>.error x | .ok n=>if tx C.L (i+3)=fE then .ok (⟨kind,s,(n:Int)⟩,i+3+1) else .error (3,pl C.L (i+3))):=fun s hs=>by
  rw[Hid,dC,hs.out,first,if_pos Q,if_neg y]
  cases bS C.L (i+2)<;>rfl
 have ai:Hid _:=Q
 have al:Hid _:=y
 clear Q y
 have T1:Hid True:=trivial
 go_enter Tryz.func108,Tryz.ntmps108
 go_wp2_with (first
  | (go_at_call 102;refine (eZ aj).mono ?_;rintro e w1 h1;rcases h1.cases with ⟨f,c,q,rfl,hq⟩|⟨X,v1,c,rfl,⟨rfl,aa⟩,r⟩;(· exact ⟨rfl,by rw[dC,c.out];exact aR.up J ⟨q,rfl,hq⟩⟩);rw[sv];have H1:=blk H0 D r;clear H0;obtain ⟨af,ab⟩:=aa.alloc (.cells #[.int .i64 kind,.string ⟨X.toArray⟩,.int .i64 0] 126);have H2:=blk H1 D ab;have j:=aa.lts.1;have ac:w.heap.size≠w1.heap.size:=(by (have:=r.size;simp at this;omega));have K2:(w1.alloc (.cells #[.int .i64 kind,.string ⟨X.toArray⟩,.int .i64 0] 126)).heap[w1.heap.size]?=some (.cells #[.int .i64 kind,.string ⟨X.toArray⟩,.int .i64 0] 126 (0,0)):=heap_alloc_new _ _)
  | (go_at_call 109;clear T1;refine (dM af ⟨#[58,61]⟩ ai.out (by decide)).mono ?_;rintro e w3 ⟨rfl,ae,I⟩;have H3:=blk H2 D I;have K3:=blk K2 j I)
  | (go_at_call 109;refine (cN ae ⟨#[45]⟩ al.out).mono ?_;rintro e w4 ⟨rfl,ag,U⟩;have H4:=blk H3 D U.wide;have K4:=blk K3 j U.wide;clear H3 K3;have Z:=(((J.up r).up ab).up I).up U.wide)
  | (go_at_call 149;refine (dP _ _ st ins 0 ag).mono ?_;rintro e w5 h5;rcases h5.cases with ⟨f,k,q,rfl,hq⟩|⟨n,v5,k,rfl,⟨rfl,am,ah⟩,O⟩;(· exact ⟨rfl,by rw[(HV _ c).out,k.out];exact aR.up Z ⟨q,rfl,hq⟩⟩);have H5:=blk H4 D O;have K5:=blk K4 j O;clear H4 K4;have an:(n:Int)<1000000000000000000:=(by omega);have ao:(0:Int)≤n:=(by omega);obtain ⟨k2,z2⟩:=lU K5 2 _ rfl;have ad:=ah.put j 2 (.int .i64 (n:Int));obtain ⟨H6,K6⟩:=mS H5 K5 ac 2 (.int .i64 (n:Int));have Y:Fr w.heap.size [C.rb] w (w5.setCell ⟨w1.heap.size,2,none⟩ (.int .i64 (n:Int))):=(Z.up O).setCell (.inl ((J.up r).size)) _)
  | (go_at_call 101;refine (cD ad ⟨#[59]⟩ fE rfl (by decide)).mono ?_;rintro e w7 h7;rcases h7.cases with ⟨f,l,q,rfl,hq⟩|⟨_,v7,l,rfl,⟨rfl,ak⟩,u⟩;(· exact ⟨rfl,by rw[(HV _ c).out,k.out];simp only;rw[if_neg (aV l).1,<-(aV l).2];exact aR.up Y ⟨q,rfl,hq⟩⟩);have H7:=blk H6 D u;have K7:=blk K6 j u)
  | (refine cM rfl 126 (.tmp 5) rfl ⟨w1.heap.size,0,none⟩ rfl (.agg #[.int .i64 kind,.string ⟨X.toArray⟩,.int .i64 (n:Int)]) (Fa rfl K7) ?_)
  | (refine wpList_store_row rfl 126 (.tmp 4) (.tmp 25) rfl w.heap.size #[.int .i64 kind,.string ⟨X.toArray⟩,.int .i64 (n:Int)] rfl rfl 126 _ H7 Tryz.size126 rfl (uL _ _ _) ?_))
 refine aY7 (uV _ _ w.heap.size #[.int .i64 kind,.string ⟨X.toArray⟩,.int .i64 (n:Int)] rfl rfl (setRow_heap _ _ _ _ _ _ H7)) rfl ?_
 rw[(HV _ c).out,k.out]
 simp only
 rw[if_pos (bJ l)]
 exact ⟨_,rfl,⟨rfl,ak.row D _⟩,(Y.up u).row (.inl (aN4 _)) _⟩
theorem J0 {C:dV}{w:World}{i st ins:Nat}(h:PS C w i st ins 0) (kind:Nat) (Q:tx C.L (i+1)=rZ) (D:tx C.L (i+2)=vE):Calls Tryz.prog 108 #[.pointer (some ⟨C.rb,0,none⟩),.int .i64 kind] w (vU C (tR C st ins) w (dC C.L kind i)):=by
 have I:=h.lts.1
 obtain ⟨al,u⟩:=h.alloc (.cells #[.int .i64 0,.string ⟨#[]⟩,.int .i64 0] 126)
 have H0:(w.alloc (.cells #[.int .i64 0,.string ⟨#[]⟩,.int .i64 0] 126)).heap[w.heap.size]?=some (.cells #[.int .i64 0,.string ⟨#[]⟩,.int .i64 0] 126 (0,0)):=heap_alloc_new _ _
 have HV:∀s,Hid (nm C.L i=.ok s)->Hid (dC C.L kind i=match bS C.L (i+3) with | .error x=>.error x | .ok n=>if tx C.L (i+4)=fE then .ok (⟨kind,s,-(n:Int)⟩,i+4+1) else .error (3,pl C.L (i+4))):=fun s hs=>by
  rw[Hid,dC,hs.out,first,if_pos Q,if_pos D]
  cases bS C.L (i+3)<;>rfl
 have aj:Hid _:=Q
 have an:Hid _:=D
 clear Q D
 have T1:Hid True:=trivial
 go_enter Tryz.func108,Tryz.ntmps108
 go_wp2_with (first
  | (go_at_call 102;refine (eZ al).mono ?_;rintro e w1 h1;rcases h1.cases with ⟨f,j,q,rfl,hq⟩|⟨X,v1,j,rfl,⟨rfl,ab⟩,k⟩;(· exact ⟨rfl,by rw[dC,j.out];exact aR.up u ⟨q,rfl,hq⟩⟩);rw[sv];have H1:=blk H0 I k;clear H0;obtain ⟨af,ac⟩:=ab.alloc (.cells #[.int .i64 kind,.string ⟨X.toArray⟩,.int .i64 0] 126);have H2:=blk H1 I ac;have c:=ab.lts.1;have Y:w.heap.size≠w1.heap.size:=(by (have:=k.size;simp at this;omega));have K2:(w1.alloc (.cells #[.int .i64 kind,.string ⟨X.toArray⟩,.int .i64 0] 126)).heap[w1.heap.size]?=some (.cells #[.int .i64 kind,.string ⟨X.toArray⟩,.int .i64 0] 126 (0,0)):=heap_alloc_new _ _)
  | (go_at_call 109;clear T1;refine (dM af ⟨#[58,61]⟩ aj.out (by decide)).mono ?_;rintro e w3 ⟨rfl,ae,J⟩;have H3:=blk H2 I J;have K3:=blk K2 c J)
  | (go_at_call 109;refine (dM ae ⟨#[45]⟩ an.out (by decide)).mono ?_;rintro e w4 ⟨rfl,ag,U⟩;have H4:=blk H3 I U;have K4:=blk K3 c U;clear H3 K3;have aa:=(((u.up k).up ac).up J).up U)
  | (go_at_call 149;refine (dP _ _ st ins 0 ag).mono ?_;rintro e w5 h5;rcases h5.cases with ⟨f,l,q,rfl,hq⟩|⟨n,v5,l,rfl,⟨rfl,ao,ai⟩,O⟩;(· exact ⟨rfl,by rw[(HV _ j).out,l.out];exact aR.up aa ⟨q,rfl,hq⟩⟩);have H5:=blk H4 I O;have K5:=blk K4 c O;clear H4 K4;have ap:(n:Int)<1000000000000000000:=(by omega);have ar:(0:Int)≤n:=(by omega);obtain ⟨k2,z2⟩:=lU K5 2 _ rfl;have ad:=(ai.put c 2 (.int .i64 (n:Int))).put c 2 (.int .i64 (-(n:Int)));obtain ⟨ak,ah⟩:=mS H5 K5 Y 2 (.int .i64 (n:Int));obtain ⟨H6,K6⟩:=mS ak ah Y 2 (.int .i64 (-(n:Int)));have Z:=((aa.up O).setCell (p:=⟨w1.heap.size,2,none⟩) (.inl ((u.up k).size)) (.int .i64 (n:Int))).setCell (p:=⟨w1.heap.size,2,none⟩) (.inl ((u.up k).size)) (.int .i64 (-(n:Int))))
  | (go_at_call 101;refine (cD ad ⟨#[59]⟩ fE rfl (by decide)).mono ?_;rintro e w7 h7;rcases h7.cases with ⟨f,r,q,rfl,hq⟩|⟨_,v7,r,rfl,⟨rfl,am⟩,y⟩;(· exact ⟨rfl,by rw[(HV _ j).out,l.out];simp only;rw[if_neg (aV r).1,<-(aV r).2];exact aR.up Z ⟨q,rfl,hq⟩⟩);have H7:=blk H6 I y;have K7:=blk K6 c y)
  | (refine cM rfl 126 (.tmp 5) rfl ⟨w1.heap.size,0,none⟩ rfl (.agg #[.int .i64 kind,.string ⟨X.toArray⟩,.int .i64 (-(n:Int))]) (Fa rfl K7) ?_)
  | (refine wpList_store_row rfl 126 (.tmp 4) (.tmp 25) rfl w.heap.size #[.int .i64 kind,.string ⟨X.toArray⟩,.int .i64 (-(n:Int))] rfl rfl 126 _ H7 Tryz.size126 rfl (uL _ _ _) ?_))
 refine aY7 (uV _ _ w.heap.size #[.int .i64 kind,.string ⟨X.toArray⟩,.int .i64 (-(n:Int))] rfl rfl (setRow_heap _ _ _ _ _ _ H7)) rfl ?_
 rw[(HV _ j).out,l.out]
 simp only
 rw[if_pos (bJ r)]
 exact ⟨_,rfl,⟨rfl,am.row I _⟩,(Z.up y).row (.inl (aN4 _)) _⟩
theorem J1 {C:dV}{w:World}{i st ins:Nat}(h:PS C w i st ins 0) (kind:Nat):Calls Tryz.prog 108 #[.pointer (some ⟨C.rb,0,none⟩),.int .i64 kind] w (vU C (tR C st ins) w (dC C.L kind i)):=by
 by_cases hce:tx C.L (i+1)=rZ
 ·by_cases hmi:tx C.L (i+2)=vE
  ·exact J0 h kind hce hmi
  ·exact I9 h kind hce hmi
 ·exact zV h kind hce
end Go.Proofs.YthieaobjdpfcoaaGreatDoor
