import Derived.Test.YthieaobjdpfcoaaGreatDoorVPsets
import Derived.Laws.Rows
set_option maxRecDepth 100000
set_option maxHeartbeats 8000000
namespace Go.Proofs.YthieaobjdpfcoaaGreatDoor
open Go.Proofs.Tryz (prog)
section
open Go.RowKit Px
theorem PS.put {C:dV}{w:World}{i st ins und b:Nat}(h:PS C w i st ins und) (hb:C.rb<b) (o:Nat) (v:Value):PS C (w.setCell ⟨b,o,none⟩ v) i st ins und:=
 h.low (B:=b) hb ((Fr.refl b [] w).setCell (p:=⟨b,o,none⟩) (.inl (aO4 _)) v)
theorem Fr.row {B:Nat}{X:List Nat}{a w:World}(h:Fr B X a w) {b:Nat}(hp:B≤b\/b∈X) (cs:Array Value):Fr B X a (w.setRow b cs):=
 h.trans ⟨rfl,rfl,rfl,by simp[World.setRow],fun k hk hx=>setRow_other _ _ _ _ (fun e=>by rcases hp with hp|hp;omega;exact hx (e▸hp))⟩
theorem PS.row {C:dV}{w:World}{i st ins und b:Nat}(h:PS C w i st ins und) (hb:C.rb<b) (cs:Array Value):PS C (w.setRow b cs) i st ins und:=
 h.low (B:=b) hb ((Fr.refl _ _ _).row (.inl (aO4 _)) cs)
theorem blk {C:dV}{w w':World}{b:Nat}{o:Obj}(h:w.heap[b]?=some o) (hb:C.rb<b) (c:Fr w.heap.size [C.rb] w w'):w'.heap[b]?=some o:=by
 rw[c.block b (aB h) (by simp;omega)];exact h
theorem mS {w:World}{a b:Nat}{O:Obj}{cs:Array Value}{t:TypeId}(H:w.heap[a]?=some O) (K:w.heap[b]?=some (.cells cs t (0,0))) (hne:a≠b) (o:Nat) (v:Value):(w.setCell ⟨b,o,none⟩ v).heap[a]?=some O/\(w.setCell ⟨b,o,none⟩ v).heap[b]?=some (.cells (cs.setIfInBounds o v) t (0,0)):=
 ⟨by rw[Below.heap_setCell _ _ _ _ hne];exact H,heap_setCell_same w b o _ t _ K⟩
theorem lU {w:World}{b:Nat}{cs:Array Value}{t:TypeId}(K:w.heap[b]?=some (.cells cs t (0,0))) (o:Nat) (v:Value) (hv:cs[o]?=some v):w.cell? ⟨b,o,none⟩=some v/\w.frozen? ⟨b,o,none⟩=false:=
 ⟨by rw[cell_of_row _ _ _ _ _ _ K];exact hv,by simp[World.frozen?,K]⟩
theorem dS {C:dV}{w:World}{i st ins c:Nat}(h:PS C w i st ins c) (s:ByteArray) (k:bE) (r:bs s=k) (n:k≠[]):Calls prog 109 #[.pointer (some ⟨C.rb,0,none⟩),.string s] w fun e w'=>e=.returned (.bool (decide (tx C.L i=k)))/\PS C w' (kH C.L k i) st ins c/\Fr w.heap.size [C.rb] w w':=by
 subst r
 by_cases ht:tx C.L i=bs s
 ·refine (dM h s ht n).mono ?_
  rintro e w' ⟨rfl,j,l⟩
  exact ⟨by rw[decide_eq_true ht],by rw[kH,if_pos ht];exact j,l⟩
 ·refine (cN h s ht).mono ?_
  rintro e w' ⟨rfl,j,l⟩
  exact ⟨by rw[decide_eq_false ht],by rw[kH,if_neg ht];exact j,l.wide⟩
theorem Tryz.size126:(prog.info? 126).map (·.size)=some 3:=by kernel_rfl
theorem uV (c:Array Value) (W:World) (g:Nat) (h:Array Value) (hsz:h.size=3) (k:c.getD 4 undef=.pointer (some ⟨g,0,none⟩)) (l:W.heap[g]?=some (.cells h 126 (0,0))) :
    (results Tryz.f108 c).run prog W=.ok (.agg h) W:=by
 have n:=run_loadVar_row (P:=prog) W g 126 126 h (0,0) _ l Tryz.underlying126 rfl (by rw[hsz];exact Tryz.size126)
 have j:c[4]?.getD undef=.pointer (some ⟨g,0,none⟩):=by simpa using k
 simp[results,Tryz.results108,j,asAddr,n]
def tR (C:dV) (st ins:Nat) (p:bQ×Nat) (v:Value) (w':World):Prop:=v=.agg #[.int .i64 p.1.kind,sv p.1.name,.int .i64 p.1.first]/\PS C w' p.2 st ins 0
theorem Fa {W:World}{g:Nat}{fc:Array Value}(hsz:fc.size=3) (hg:W.heap[g]?=some (.cells fc 126 (0,0))):(loadVar 126 ⟨g,0,none⟩).run prog W=.ok (.agg fc) W:=
 run_loadVar_row (P:=prog) W g 126 126 fc (0,0) _ hg Tryz.underlying126 rfl (by rw[hsz];exact Tryz.size126)
theorem uL (a b:Int) (s:ByteArray):(#[Value.int .i64 a,.string s,.int .i64 b]:Array Value).all (·.oneCell')=true:=by simp[Value.oneCell']
theorem zV {C:dV}{w:World}{i st ins:Nat}(h:PS C w i st ins 0) (kind:Nat) (O:tx C.L (i+1)≠rZ):Calls prog 108 #[.pointer (some ⟨C.rb,0,none⟩),.int .i64 kind] w (vU C (tR C st ins) w (dC C.L kind i)):=by
 have I:=h.lts.1
 obtain ⟨Z,n⟩:=h.alloc (.cells #[.int .i64 0,.string ⟨#[]⟩,.int .i64 0] 126)
 have H0:(w.alloc (.cells #[.int .i64 0,.string ⟨#[]⟩,.int .i64 0] 126)).heap[w.heap.size]?=some (.cells #[.int .i64 0,.string ⟨#[]⟩,.int .i64 0] 126 (0,0)):=heap_alloc_new _ _
 have J:Hid _:=O
 have HV:∀s,Hid (nm C.L i=.ok s)->Hid (dC C.L kind i=if tx C.L (i+1)=fE then .ok (⟨kind,s,0⟩,i+2) else .error (3,pl C.L (i+1))):=fun s hs=>by
  rw[Hid,dC,hs.out,first,if_neg J.out]
 clear O
 go_enter Tryz.func108,Tryz.ntmps108
 go_wp2_with (first
  | (go_at_call 102;refine (eZ Z).mono ?_;rintro e w1 h1;rcases h1.cases with ⟨f,k,q,rfl,U⟩|⟨y,v1,k,rfl,⟨rfl,D⟩,l⟩;(· exact ⟨rfl,by rw[dC,k.out];exact aR.up n ⟨q,rfl,U⟩⟩);rw[sv];have H1:=blk H0 I l;clear H0;obtain ⟨Y,u⟩:=D.alloc (.cells #[.int .i64 kind,.string ⟨y.toArray⟩,.int .i64 0] 126);have H2:=blk H1 I u;have Q:=D.lts.1;have ab:w.heap.size≠w1.heap.size:=(by (have:=l.size;simp at this;omega));have K2:(w1.alloc (.cells #[.int .i64 kind,.string ⟨y.toArray⟩,.int .i64 0] 126)).heap[w1.heap.size]?=some (.cells #[.int .i64 kind,.string ⟨y.toArray⟩,.int .i64 0] 126 (0,0)):=heap_alloc_new _ _)
  | (go_at_call 109;refine (cN Y ⟨#[58,61]⟩ J.out).mono ?_;rintro e w3 ⟨rfl,X,j⟩;have H3:=blk H2 I j.wide;have K3:=blk K2 Q j.wide)
  | (go_at_call 101;refine (cD X ⟨#[59]⟩ fE rfl (by decide)).mono ?_;rintro e w4 h4;rcases h4.cases with ⟨f,c,q,rfl,U⟩|⟨_,v4,c,rfl,⟨rfl,aa⟩,r⟩;(· exact ⟨rfl,by rw[(HV _ k).out,if_neg (aV c).1,<-(aV c).2];exact aR.up (((n.up l).up u).up j.wide) ⟨q,rfl,U⟩⟩);have H4:=blk H3 I r;have K4:=blk K3 Q r;clear H3 K3)
  | (refine cM rfl 126 (.tmp 5) rfl ⟨w1.heap.size,0,none⟩ rfl (.agg #[.int .i64 kind,.string ⟨y.toArray⟩,.int .i64 0]) (Fa rfl K4) ?_)
  | (refine wpList_store_row rfl 126 (.tmp 4) (.tmp 25) rfl w.heap.size #[.int .i64 kind,.string ⟨y.toArray⟩,.int .i64 0] rfl rfl 126 _ H4 Tryz.size126 rfl (uL _ _ _) ?_))
 refine aY9 (uV _ _ w.heap.size #[.int .i64 kind,.string ⟨y.toArray⟩,.int .i64 0] rfl rfl (setRow_heap _ _ _ _ _ _ H4)) rfl ?_
 rw[(HV _ k).out,if_pos (bJ c)]
 exact ⟨_,rfl,⟨rfl,aa.row I _⟩,(((((n.up l).up u).up j.wide).up r).row (.inl (aO4 _)) _)⟩
theorem I9 {C:dV}{w:World}{i st ins:Nat}(h:PS C w i st ins 0) (kind:Nat) (Q:tx C.L (i+1)=rZ) (y:tx C.L (i+2)≠vE):Calls prog 108 #[.pointer (some ⟨C.rb,0,none⟩),.int .i64 kind] w (vU C (tR C st ins) w (dC C.L kind i)):=by
 have D:=h.lts.1
 obtain ⟨aj,J⟩:=h.alloc (.cells #[.int .i64 0,.string ⟨#[]⟩,.int .i64 0] 126)
 have H0:(w.alloc (.cells #[.int .i64 0,.string ⟨#[]⟩,.int .i64 0] 126)).heap[w.heap.size]?=some (.cells #[.int .i64 0,.string ⟨#[]⟩,.int .i64 0] 126 (0,0)):=heap_alloc_new _ _
 have HV:∀s,Hid (nm C.L i=.ok s)->Hid (dC C.L kind i=match bS C.L (i+2) with | .error x=>.error x | .ok n=>if tx C.L (i+3)=fE then .ok (⟨kind,s,(n:Int)⟩,i+3+1) else .error (3,pl C.L (i+3))):=fun s hs=>by
  rw[Hid,dC,hs.out,first,if_pos Q,if_neg y]
  cases bS C.L (i+2)<;>rfl
 have ai:Hid _:=Q
 have al:Hid _:=y
 clear Q y
 have T1:Hid True:=trivial
 go_enter Tryz.func108,Tryz.ntmps108
 go_wp2_with (first
  | (go_at_call 102;refine (eZ aj).mono ?_;rintro e w1 h1;rcases h1.cases with ⟨f,c,q,rfl,hq⟩|⟨X,v1,c,rfl,⟨rfl,aa⟩,r⟩;(· exact ⟨rfl,by rw[dC,c.out];exact aR.up J ⟨q,rfl,hq⟩⟩);rw[sv];have H1:=blk H0 D r;clear H0;obtain ⟨af,ab⟩:=aa.alloc (.cells #[.int .i64 kind,.string ⟨X.toArray⟩,.int .i64 0] 126);have H2:=blk H1 D ab;have j:=aa.lts.1;have ac:w.heap.size≠w1.heap.size:=(by (have:=r.size;simp at this;omega));have K2:(w1.alloc (.cells #[.int .i64 kind,.string ⟨X.toArray⟩,.int .i64 0] 126)).heap[w1.heap.size]?=some (.cells #[.int .i64 kind,.string ⟨X.toArray⟩,.int .i64 0] 126 (0,0)):=heap_alloc_new _ _)
  | (go_at_call 109;clear T1;refine (dM af ⟨#[58,61]⟩ ai.out (by decide)).mono ?_;rintro e w3 ⟨rfl,ae,I⟩;have H3:=blk H2 D I;have K3:=blk K2 j I)
  | (go_at_call 109;refine (cN ae ⟨#[45]⟩ al.out).mono ?_;rintro e w4 ⟨rfl,ag,U⟩;have H4:=blk H3 D U.wide;have K4:=blk K3 j U.wide;clear H3 K3;have Z:=(((J.up r).up ab).up I).up U.wide)
  | (go_at_call 149;refine (dP _ _ st ins 0 ag).mono ?_;rintro e w5 h5;rcases h5.cases with ⟨f,k,q,rfl,hq⟩|⟨n,v5,k,rfl,⟨rfl,am,ah⟩,O⟩;(· exact ⟨rfl,by rw[(HV _ c).out,k.out];exact aR.up Z ⟨q,rfl,hq⟩⟩);have H5:=blk H4 D O;have K5:=blk K4 j O;clear H4 K4;have an:(n:Int)<1000000000000000000:=(by omega);have ao:(0:Int)≤n:=(by omega);obtain ⟨k2,z2⟩:=lU K5 2 _ rfl;have ad:=ah.put j 2 (.int .i64 (n:Int));obtain ⟨H6,K6⟩:=mS H5 K5 ac 2 (.int .i64 (n:Int));have Y:Fr w.heap.size [C.rb] w (w5.setCell ⟨w1.heap.size,2,none⟩ (.int .i64 (n:Int))):=(Z.up O).setCell (.inl ((J.up r).size)) _)
  | (go_at_call 101;refine (cD ad ⟨#[59]⟩ fE rfl (by decide)).mono ?_;rintro e w7 h7;rcases h7.cases with ⟨f,l,q,rfl,hq⟩|⟨_,v7,l,rfl,⟨rfl,ak⟩,u⟩;(· exact ⟨rfl,by rw[(HV _ c).out,k.out];simp only;rw[if_neg (aV l).1,<-(aV l).2];exact aR.up Y ⟨q,rfl,hq⟩⟩);have H7:=blk H6 D u;have K7:=blk K6 j u)
  | (refine cM rfl 126 (.tmp 5) rfl ⟨w1.heap.size,0,none⟩ rfl (.agg #[.int .i64 kind,.string ⟨X.toArray⟩,.int .i64 (n:Int)]) (Fa rfl K7) ?_)
  | (refine wpList_store_row rfl 126 (.tmp 4) (.tmp 25) rfl w.heap.size #[.int .i64 kind,.string ⟨X.toArray⟩,.int .i64 (n:Int)] rfl rfl 126 _ H7 Tryz.size126 rfl (uL _ _ _) ?_))
 refine aY9 (uV _ _ w.heap.size #[.int .i64 kind,.string ⟨X.toArray⟩,.int .i64 (n:Int)] rfl rfl (setRow_heap _ _ _ _ _ _ H7)) rfl ?_
 rw[(HV _ c).out,k.out]
 simp only
 rw[if_pos (bJ l)]
 exact ⟨_,rfl,⟨rfl,ak.row D _⟩,(Y.up u).row (.inl (aO4 _)) _⟩
theorem J0 {C:dV}{w:World}{i st ins:Nat}(h:PS C w i st ins 0) (kind:Nat) (Q:tx C.L (i+1)=rZ) (D:tx C.L (i+2)=vE):Calls prog 108 #[.pointer (some ⟨C.rb,0,none⟩),.int .i64 kind] w (vU C (tR C st ins) w (dC C.L kind i)):=by
 have I:=h.lts.1
 obtain ⟨al,u⟩:=h.alloc (.cells #[.int .i64 0,.string ⟨#[]⟩,.int .i64 0] 126)
 have H0:(w.alloc (.cells #[.int .i64 0,.string ⟨#[]⟩,.int .i64 0] 126)).heap[w.heap.size]?=some (.cells #[.int .i64 0,.string ⟨#[]⟩,.int .i64 0] 126 (0,0)):=heap_alloc_new _ _
 have HV:∀s,Hid (nm C.L i=.ok s)->Hid (dC C.L kind i=match bS C.L (i+3) with | .error x=>.error x | .ok n=>if tx C.L (i+4)=fE then .ok (⟨kind,s,-(n:Int)⟩,i+4+1) else .error (3,pl C.L (i+4))):=fun s hs=>by
  rw[Hid,dC,hs.out,first,if_pos Q,if_pos D]
  cases bS C.L (i+3)<;>rfl
 have aj:Hid _:=Q
 have an:Hid _:=D
 clear Q D
 have T1:Hid True:=trivial
 go_enter Tryz.func108,Tryz.ntmps108
 go_wp2_with (first
  | (go_at_call 102;refine (eZ al).mono ?_;rintro e w1 h1;rcases h1.cases with ⟨f,j,q,rfl,hq⟩|⟨X,v1,j,rfl,⟨rfl,ab⟩,k⟩;(· exact ⟨rfl,by rw[dC,j.out];exact aR.up u ⟨q,rfl,hq⟩⟩);rw[sv];have H1:=blk H0 I k;clear H0;obtain ⟨af,ac⟩:=ab.alloc (.cells #[.int .i64 kind,.string ⟨X.toArray⟩,.int .i64 0] 126);have H2:=blk H1 I ac;have c:=ab.lts.1;have Y:w.heap.size≠w1.heap.size:=(by (have:=k.size;simp at this;omega));have K2:(w1.alloc (.cells #[.int .i64 kind,.string ⟨X.toArray⟩,.int .i64 0] 126)).heap[w1.heap.size]?=some (.cells #[.int .i64 kind,.string ⟨X.toArray⟩,.int .i64 0] 126 (0,0)):=heap_alloc_new _ _)
  | (go_at_call 109;clear T1;refine (dM af ⟨#[58,61]⟩ aj.out (by decide)).mono ?_;rintro e w3 ⟨rfl,ae,J⟩;have H3:=blk H2 I J;have K3:=blk K2 c J)
  | (go_at_call 109;refine (dM ae ⟨#[45]⟩ an.out (by decide)).mono ?_;rintro e w4 ⟨rfl,ag,U⟩;have H4:=blk H3 I U;have K4:=blk K3 c U;clear H3 K3;have aa:=(((u.up k).up ac).up J).up U)
  | (go_at_call 149;refine (dP _ _ st ins 0 ag).mono ?_;rintro e w5 h5;rcases h5.cases with ⟨f,l,q,rfl,hq⟩|⟨n,v5,l,rfl,⟨rfl,ao,ai⟩,O⟩;(· exact ⟨rfl,by rw[(HV _ j).out,l.out];exact aR.up aa ⟨q,rfl,hq⟩⟩);have H5:=blk H4 I O;have K5:=blk K4 c O;clear H4 K4;have ap:(n:Int)<1000000000000000000:=(by omega);have ar:(0:Int)≤n:=(by omega);obtain ⟨k2,z2⟩:=lU K5 2 _ rfl;have ad:=(ai.put c 2 (.int .i64 (n:Int))).put c 2 (.int .i64 (-(n:Int)));obtain ⟨ak,ah⟩:=mS H5 K5 Y 2 (.int .i64 (n:Int));obtain ⟨H6,K6⟩:=mS ak ah Y 2 (.int .i64 (-(n:Int)));have Z:=((aa.up O).setCell (p:=⟨w1.heap.size,2,none⟩) (.inl ((u.up k).size)) (.int .i64 (n:Int))).setCell (p:=⟨w1.heap.size,2,none⟩) (.inl ((u.up k).size)) (.int .i64 (-(n:Int))))
  | (go_at_call 101;refine (cD ad ⟨#[59]⟩ fE rfl (by decide)).mono ?_;rintro e w7 h7;rcases h7.cases with ⟨f,r,q,rfl,hq⟩|⟨_,v7,r,rfl,⟨rfl,am⟩,y⟩;(· exact ⟨rfl,by rw[(HV _ j).out,l.out];simp only;rw[if_neg (aV r).1,<-(aV r).2];exact aR.up Z ⟨q,rfl,hq⟩⟩);have H7:=blk H6 I y;have K7:=blk K6 c y)
  | (refine cM rfl 126 (.tmp 5) rfl ⟨w1.heap.size,0,none⟩ rfl (.agg #[.int .i64 kind,.string ⟨X.toArray⟩,.int .i64 (-(n:Int))]) (Fa rfl K7) ?_)
  | (refine wpList_store_row rfl 126 (.tmp 4) (.tmp 25) rfl w.heap.size #[.int .i64 kind,.string ⟨X.toArray⟩,.int .i64 (-(n:Int))] rfl rfl 126 _ H7 Tryz.size126 rfl (uL _ _ _) ?_))
 refine aY9 (uV _ _ w.heap.size #[.int .i64 kind,.string ⟨X.toArray⟩,.int .i64 (-(n:Int))] rfl rfl (setRow_heap _ _ _ _ _ _ H7)) rfl ?_
 rw[(HV _ j).out,l.out]
 simp only
 rw[if_pos (bJ r)]
 exact ⟨_,rfl,⟨rfl,am.row I _⟩,(Z.up y).row (.inl (aO4 _)) _⟩
theorem J1 {C:dV}{w:World}{i st ins:Nat}(h:PS C w i st ins 0) (kind:Nat):Calls prog 108 #[.pointer (some ⟨C.rb,0,none⟩),.int .i64 kind] w (vU C (tR C st ins) w (dC C.L kind i)):=by
 by_cases hce:tx C.L (i+1)=rZ
 ·by_cases hmi:tx C.L (i+2)=vE
  ·exact J0 h kind hce hmi
  ·exact I9 h kind hce hmi
 ·exact zV h kind hce
end
section
open Go.RowKit Px
theorem bA {n:Nat}{X:List Nat}{w w':World}(hX:∀x∈X,x<n) (hf:Fr w.heap.size X w w'):bB (Ge n) (Ge n) w w':=hf.keep (fun b hb hm=>by have:=hX b hm;simp[Ge] at hb;omega)
theorem aJ1 {B e size n:Nat}{X:List Nat}{v:Value}{xs:List Value}{w w':World}(h:w.ownsRow B e size v n xs) (r:∀x∈X,x<B) (l:Fr w.heap.size X w w'):w'.ownsRow B e size v n xs:=by
 refine ⟨h.1,?_⟩
 rcases h.2 with s|⟨g,cap,j,rfl,hb,c,rest⟩
 ·exact .inl s
 ·exact .inr ⟨g,cap,j,rfl,hb,by rw[l.block g (aB c) (fun k=>by have:=r g k;omega)];exact c,rest⟩
theorem cU (w:World) (b o:Nat) (v:Value):Fr w.heap.size [b] w (w.setCell ⟨b,o,none⟩ v):=(Fr.refl _ _ _).setCell (p:=⟨b,o,none⟩) (.inr (by simp)) v
theorem sC (w:World) (b:Nat) (cs:Array Value):Fr w.heap.size [b] w (w.setRow b cs):=(Fr.refl _ _ _).row (.inr (by simp)) cs
theorem cJ.ge {n m:Nat}{w:World}{l:List iY}{v:Value}(h:cJ (Ge m) w l v) (hn:n≤m):cJ (Ge n) w l v:=h.carry (fun _ hb _=>⟨aO6 hn hb,rfl⟩)
theorem sA (A:Nat->Prop) (w:World):cJ A w [] (.slice none 0 0):=⟨[],⟨aY7 _ _ _ _,fun g hg=>by simp[Value.ownBlock] at hg⟩,rfl⟩
def xY (L:List Lx.fQ) (kind i n:Nat) (e:E) (l:List iY) (m:Nat):Except F (Wy×Nat):=
 if tx L m=mE then
  match nm L (m+1) with
  | .error x=>.error x
  | .ok s=>
   if tx L (kH L iS (m+2))=fE then .ok (⟨kind,decide (tx L i=gB),e,n,l,s,decide (tx L (m+2)=iS)⟩,kH L iS (m+2)+1)
   else .error (3,pl L (kH L iS (m+2)))
 else .error (3,pl L m)
theorem xQ {L:List Lx.fQ}{kind i:Nat}{f:F}(h:cond L (kH L gB i)=.error f):uG L kind i=.error f:=by rw[uG,h]
theorem xP {L:List Lx.fQ}{kind i n j:Nat}{e:E}{f:F}(h:cond L (kH L gB i)=.ok (n,e,j)) (h2:fR L j=.error f):uG L kind i=.error f:=by rw[uG,h];simp only;rw[h2]
theorem dG {L:List Lx.fQ}{kind i n j m:Nat}{e:E}{l:List iY}(h:cond L (kH L gB i)=.ok (n,e,j)) (h2:fR L j=.ok (l,m)):uG L kind i=xY L kind i n e l m:=by rw[uG,h];simp only;rw[h2];simp only;rw[xY];split<;>rfl
theorem kO {L:List Lx.fQ}{kind i n m:Nat}{e:E}{l:List iY}(h:tx L m≠mE):xY L kind i n e l m=.error (3,pl L m):=if_neg h
theorem lY {L:List Lx.fQ}{kind i n m:Nat}{e:E}{l:List iY}{f:F}(h:tx L m=mE) (h2:nm L (m+1)=.error f):xY L kind i n e l m=.error f:=by rw[xY,if_pos h,h2]
theorem fK {L:List Lx.fQ}{kind i n m:Nat}{e:E}{l:List iY}{s:bE}(h:tx L m=mE) (h2:nm L (m+1)=.ok s):xY L kind i n e l m=if tx L (kH L iS (m+2))=fE then .ok (⟨kind,decide (tx L i=gB),e,n,l,s,decide (tx L (m+2)=iS)⟩,kH L iS (m+2)+1) else .error (3,pl L (kH L iS (m+2))):=by rw[xY,if_pos h,h2]
theorem Tryz.size273:(prog.info? 273).map (·.size)=some 7:=by kernel_rfl
theorem rX {W:World}{g:Nat}{fc:Array Value}(hsz:fc.size=7) (hg:W.heap[g]?=some (.cells fc 273 (0,0))):(loadVar 273 ⟨g,0,none⟩).run prog W=.ok (.agg fc) W:=
 run_loadVar_row (P:=prog) W g 273 273 fc (0,0) _ hg Tryz.underlying273 rfl (by rw[hsz];exact Tryz.size273)
theorem kS (c:Array Value) (W:World) (g:Nat) (j:Array Value) (hsz:j.size=7) (k:c.getD 4 undef=.pointer (some ⟨g,0,none⟩)) (l:W.heap[g]?=some (.cells j 273 (0,0))) :
    (results Tryz.f224 c).run prog W=.ok (.agg j) W:=by
 have h:c[4]?.getD undef=.pointer (some ⟨g,0,none⟩):=by simpa using k
 simp[results,Tryz.results224,h,asAddr,rX hsz l]
theorem lZ (a n:Int) (b c:Bool) (p:Option Addr) (ao:Option Addr) (x y:Nat) (s:ByteArray):(#[Value.int .i64 a,.bool b,.pointer p,.int .i64 n,.slice ao x y,.string s,.bool c]:Array Value).all (·.oneCell')=true:=by simp[Value.oneCell']
def sM (a:Wy) (p q:Value):Array Value:=#[.int .i64 a.kind,.bool a.now,p,.int .i64 a.times,q,sv a.to,.bool a.back]
def rY (C:dV) (w:World) (st ins:Nat) (x:Wy×Nat) (v:Value) (w':World):Prop:=(∃p q,v=.agg (sM x.1 p q)/\jR (Ge w.heap.size) w' x.1.cond p/\cJ (Ge w.heap.size) w' x.1.sets q)/\PS C w' x.2 st ins 0
abbrev Yt:Array Value:=#[.int .i64 0,.bool false,.pointer none,.int .i64 0,.slice none 0 0,.string ⟨#[]⟩,.bool false]
abbrev oP (kind n:Int) (b:Bool) (p q:Value) (s:ByteArray) (c:Bool):Array Value:=#[.int .i64 kind,.bool b,p,.int .i64 n,q,.string s,.bool c]
theorem Oj {C:dV}{w:World}{i st ins:Nat}(h:PS C w i st ins 0) (kind:Nat) (ap:tx C.L (kH C.L gB i)≠kIf):Calls prog 224 #[.pointer (some ⟨C.rb,0,none⟩),.int .i64 kind] w (vU C (rY C w st ins) w (uG C.L kind i)):=by
 have Z:=h.lts.1
 obtain ⟨ce,Y⟩:=h.alloc (.cells Yt 273)
 have H0:(w.alloc (.cells Yt 273)).heap[w.heap.size]?=some (.cells Yt 273 (0,0)):=heap_alloc_new _ _
 have HC:Hid (cond C.L (kH C.L gB i)=.ok (1,.nil,kH C.L gB i)):=if_neg ap
 have bv:Hid _:=ap
 clear ap
 have T1:Hid True:=trivial
 have T2:Hid True:=trivial
 have T3:Hid True:=trivial
 have T4:Hid True:=trivial
 have T5:Hid True:=trivial
 go_enter Tryz.func224,Tryz.ntmps224
 go_wp2_with (first
  | (go_at_call 109;clear T1;refine (dS ce ⟨#[105,109,109,101,100,105,97,116,101]⟩ gB rfl (by decide)).mono ?_;rintro e w1 ⟨rfl,bq,Q⟩;obtain ⟨b1,bh⟩:∃b1,Hid (b1=decide (tx C.L i=gB)):=⟨_,rfl⟩;rw[<-bh.out];have H1:=blk H0 Z Q;obtain ⟨ca,bj⟩:=bq.alloc (.cells (oP kind 1 b1 (.pointer none) (.slice none 0 0) ⟨#[]⟩ false) 273);have H2:=blk H1 Z bj;have j:=bq.lts.1;have ab:w.heap.size≠w1.heap.size:=(by (have:=Q.size;simp at this;omega));have K2:(w1.alloc (.cells (oP kind 1 b1 (.pointer none) (.slice none 0 0) ⟨#[]⟩ false) 273)).heap[w1.heap.size]?=some (.cells (oP kind 1 b1 (.pointer none) (.slice none 0 0) ⟨#[]⟩ false) 273 (0,0)):=heap_alloc_new _ _;have cf:=(Y.up Q).up bj)
  | (go_at_call 109;clear T2;refine (cN ca ⟨#[105,102]⟩ bv.out).mono ?_;rintro e w3 ⟨rfl,br,aj⟩;have H3:=blk H2 Z aj.wide;have K3:=blk K2 j aj.wide;have bz:=cf.up aj.wide;have cg:=aj.size))
 have bk:=br
 have HD:=H3
 have KD:=K3
 have bn:=bz
 have bo:jR (Ge (w1.heap.size+1)) w3 .nil (.pointer none):=rfl
 have c:∀x∈[C.rb],x<w1.heap.size+1:=by simp;omega
 by_cases hdo:tx C.L (kH C.L gB i)=kDo
 ·
  have J:Hid _:=hdo
  go_wp2_with (first
   | (go_at_call 109;clear T4;refine (dM bk ⟨#[100,111]⟩ hdo (by decide)).mono ?_;rintro e x1 ⟨rfl,cc,ae⟩;have M1:=blk HD Z ae;have N1:=blk KD j ae;have bp:=bn.up ae;have cd:=bo.carry (bA c ae);have cb:=ae.size)
   | (go_at_call 225;refine (mW cc).mono ?_;rintro e x2 h2;rcases h2.cases with ⟨f,aa,q,rfl,hq⟩|⟨⟨l2,m2⟩,v2,aa,rfl,⟨⟨ci,bm⟩,-,bw⟩,ah⟩;(· exact ⟨rfl,by rw[xP HC.out (by rw[fR,if_pos J.out];exact aa.out)];exact aR.up bp ⟨q,rfl,hq⟩⟩);obtain ⟨y,cap2,rfl⟩:=aP bm.own;have M2:=blk M1 Z ah;have N2:=blk N1 j ah;obtain ⟨k4,z4⟩:=lU N2 4 _ rfl;obtain ⟨M3,N3⟩:=mS M2 N2 ab 4 (.slice y l2.length cap2);have ao:=bw.put j 4 (.slice y l2.length cap2);have af:=(bp.up ah).setCell (p:=⟨w1.heap.size,4,none⟩) (.inl ((Y.up Q).size)) (.slice y l2.length cap2);have ax:=(cd.carry (bA c ah)).carry (bA (by simp) (cU x2 w1.heap.size 4 (.slice y l2.length cap2)));have ch:=ah.size;have ak:=(bm.done.ge (n:=w1.heap.size+1) (aB N1)).carry (bA (by simp) (cU x2 w1.heap.size 4 (.slice y l2.length cap2))))
   | (go_at_call 101;clear T5;refine (cD ao ⟨#[45,45,62]⟩ mE rfl (by decide)).mono ?_;rintro e x4 h4;rcases h4.cases with ⟨f,l,q,rfl,hq⟩|⟨_,v4,l,rfl,⟨rfl,ar⟩,u⟩;(· exact ⟨rfl,by rw[dG HC.out (by rw[fR,if_pos J.out];exact aa.out),kO (aV l).1,<-(aV l).2];exact aR.up af ⟨q,rfl,hq⟩⟩);have M4:=blk M3 Z u;have N4:=blk N3 j u;have ag:=af.up u;have ay:=ax.carry (bA c u);have bb:=ak.carry (bA c u))
   | (go_at_call 102;refine (eZ ar).mono ?_;rintro e x5 h5;rcases h5.cases with ⟨f,k,q,rfl,hq⟩|⟨O,bu,k,rfl,⟨rfl,bf⟩,I⟩;(· exact ⟨rfl,by rw[dG HC.out (by rw[fR,if_pos J.out];exact aa.out),lY (bJ l) k.out];exact aR.up ag ⟨q,rfl,hq⟩⟩);rw[sv];have M5:=blk M4 Z I;have N5:=blk N4 j I;obtain ⟨k5,z5⟩:=lU N5 5 _ rfl;obtain ⟨M6,N6⟩:=mS M5 N5 ab 5 (.string ⟨O.toArray⟩);have bi:=bf.put j 5 (.string ⟨O.toArray⟩);have be:=(ag.up I).setCell (p:=⟨w1.heap.size,5,none⟩) (.inl ((Y.up Q).size)) (.string ⟨O.toArray⟩);have az:=(ay.carry (bA c I)).carry (bA (by simp) (cU x5 w1.heap.size 5 (.string ⟨O.toArray⟩)));have al:=(bb.carry (bA c I)).carry (bA (by simp) (cU x5 w1.heap.size 5 (.string ⟨O.toArray⟩))))
   | (go_at_call 109;refine (dS bi ⟨#[104,105,115,116,111,114,121]⟩ iS rfl (by decide)).mono ?_;rintro e x7 ⟨rfl,bc,s⟩;obtain ⟨r,ai⟩:∃r,Hid (r=decide (tx C.L (m2+2)=iS)):=⟨_,rfl⟩;rw[<-ai.out];have M7:=blk M6 Z s;have N7:=blk N6 j s;obtain ⟨k6,z6⟩:=lU N7 6 _ rfl;obtain ⟨M8,N8⟩:=mS M7 N7 ab 6 (.bool r);have am:=bc.put j 6 (.bool r);have ac:=(be.up s).setCell (p:=⟨w1.heap.size,6,none⟩) (.inl ((Y.up Q).size)) (.bool r);have ba:=(az.carry (bA c s)).carry (bA (by simp) (cU x7 w1.heap.size 6 (.bool r)));have au:=(al.carry (bA c s)).carry (bA (by simp) (cU x7 w1.heap.size 6 (.bool r))))
   | (go_at_call 101;refine (cD am ⟨#[59]⟩ fE rfl (by decide)).mono ?_;rintro e x9 h9;rcases h9.cases with ⟨f,U,q,rfl,hq⟩|⟨_,v9,U,rfl,⟨rfl,an⟩,D⟩;(· exact ⟨rfl,by rw[dG HC.out (by rw[fR,if_pos J.out];exact aa.out),fK (bJ l) k.out,if_neg (aV U).1,<-(aV U).2];exact aR.up ac ⟨q,rfl,hq⟩⟩);have M9:=blk M8 Z D;have N9:=blk N8 j D;have av:=ac.up D;have bg:=ba.carry (bA c D);have aw:=au.carry (bA c D))
   | (refine cM rfl 273 (.tmp 5) rfl ⟨w1.heap.size,0,none⟩ rfl (.agg (oP kind 1 b1 (.pointer none) (.slice y l2.length cap2) ⟨O.toArray⟩ r)) (rX rfl N9) ?_)
   | (refine wpList_store_row rfl 273 (.tmp 4) (.tmp 35) rfl w.heap.size (oP kind 1 b1 (.pointer none) (.slice y l2.length cap2) ⟨O.toArray⟩ r) rfl rfl 273 _ M9 Tryz.size273 rfl (lZ _ _ _ _ _ _ _ _ _) ?_))
  refine aY9 (kS _ _ w.heap.size (oP kind 1 b1 (.pointer none) (.slice y l2.length cap2) ⟨O.toArray⟩ r) rfl rfl (setRow_heap _ _ _ _ _ _ M9)) rfl ?_
  rw[dG HC.out (by rw[fR,if_pos J.out];exact aa.out),fK (bJ l) k.out,if_pos (bJ U)]
  have hsz:=(Y.up Q).size
  have kR:bB (Ge (w1.heap.size+1)) (Ge (w1.heap.size+1)) x9 (x9.setRow w.heap.size (oP kind 1 b1 (.pointer none) (.slice y l2.length cap2) ⟨O.toArray⟩ r)):=bA (by simp;omega) (sC x9 w.heap.size (oP kind 1 b1 (.pointer none) (.slice y l2.length cap2) ⟨O.toArray⟩ r))
  exact ⟨_,rfl,⟨⟨(.pointer none),(.slice y l2.length cap2),by rw[sM,<-bh.out,<-ai.out];rfl,(bg.carry kR).ge (by omega),(aw.carry kR).ge (by omega)⟩,an.row Z _⟩,av.row (.inl (aO4 _)) _⟩
 ·
  have J:Hid _:=hdo
  go_wp2_with (first
   | (go_at_call 109;clear T4;refine (cN bk ⟨#[100,111]⟩ hdo).mono ?_;rintro e x3 ⟨rfl,ao,ad⟩;have M3:=blk HD Z ad.wide;have N3:=blk KD j ad.wide;have af:=bn.up ad.wide;have ax:=bo.carry (bA (X:=[]) (by simp) ad);have ak:cJ (Ge (w1.heap.size+1)) x3 [] (.slice none 0 0):=sA _ _;have cb:=ad.size)
   | (go_at_call 101;clear T5;refine (cD ao ⟨#[45,45,62]⟩ mE rfl (by decide)).mono ?_;rintro e x4 h4;rcases h4.cases with ⟨f,l,q,rfl,hq⟩|⟨_,v4,l,rfl,⟨rfl,ar⟩,u⟩;(· exact ⟨rfl,by rw[dG HC.out (by rw[fR,if_neg J.out]),kO (aV l).1,<-(aV l).2];exact aR.up af ⟨q,rfl,hq⟩⟩);have M4:=blk M3 Z u;have N4:=blk N3 j u;have ag:=af.up u;have ay:=ax.carry (bA c u);have bb:=ak.carry (bA c u))
   | (go_at_call 102;refine (eZ ar).mono ?_;rintro e x5 h5;rcases h5.cases with ⟨f,k,q,rfl,hq⟩|⟨O,bu,k,rfl,⟨rfl,bf⟩,I⟩;(· exact ⟨rfl,by rw[dG HC.out (by rw[fR,if_neg J.out]),lY (bJ l) k.out];exact aR.up ag ⟨q,rfl,hq⟩⟩);rw[sv];have M5:=blk M4 Z I;have N5:=blk N4 j I;obtain ⟨k5,z5⟩:=lU N5 5 _ rfl;obtain ⟨M6,N6⟩:=mS M5 N5 ab 5 (.string ⟨O.toArray⟩);have bi:=bf.put j 5 (.string ⟨O.toArray⟩);have be:=(ag.up I).setCell (p:=⟨w1.heap.size,5,none⟩) (.inl ((Y.up Q).size)) (.string ⟨O.toArray⟩);have az:=(ay.carry (bA c I)).carry (bA (by simp) (cU x5 w1.heap.size 5 (.string ⟨O.toArray⟩)));have al:=(bb.carry (bA c I)).carry (bA (by simp) (cU x5 w1.heap.size 5 (.string ⟨O.toArray⟩))))
   | (go_at_call 109;refine (dS bi ⟨#[104,105,115,116,111,114,121]⟩ iS rfl (by decide)).mono ?_;rintro e x7 ⟨rfl,bc,s⟩;obtain ⟨r,ai⟩:∃r,Hid (r=decide (tx C.L ((kH C.L gB i)+2)=iS)):=⟨_,rfl⟩;rw[<-ai.out];have M7:=blk M6 Z s;have N7:=blk N6 j s;obtain ⟨k6,z6⟩:=lU N7 6 _ rfl;obtain ⟨M8,N8⟩:=mS M7 N7 ab 6 (.bool r);have am:=bc.put j 6 (.bool r);have ac:=(be.up s).setCell (p:=⟨w1.heap.size,6,none⟩) (.inl ((Y.up Q).size)) (.bool r);have ba:=(az.carry (bA c s)).carry (bA (by simp) (cU x7 w1.heap.size 6 (.bool r)));have au:=(al.carry (bA c s)).carry (bA (by simp) (cU x7 w1.heap.size 6 (.bool r))))
   | (go_at_call 101;refine (cD am ⟨#[59]⟩ fE rfl (by decide)).mono ?_;rintro e x9 h9;rcases h9.cases with ⟨f,U,q,rfl,hq⟩|⟨_,v9,U,rfl,⟨rfl,an⟩,D⟩;(· exact ⟨rfl,by rw[dG HC.out (by rw[fR,if_neg J.out]),fK (bJ l) k.out,if_neg (aV U).1,<-(aV U).2];exact aR.up ac ⟨q,rfl,hq⟩⟩);have M9:=blk M8 Z D;have N9:=blk N8 j D;have av:=ac.up D;have bg:=ba.carry (bA c D);have aw:=au.carry (bA c D))
   | (refine cM rfl 273 (.tmp 5) rfl ⟨w1.heap.size,0,none⟩ rfl (.agg (oP kind 1 b1 (.pointer none) (.slice none 0 0) ⟨O.toArray⟩ r)) (rX rfl N9) ?_)
   | (refine wpList_store_row rfl 273 (.tmp 4) (.tmp 35) rfl w.heap.size (oP kind 1 b1 (.pointer none) (.slice none 0 0) ⟨O.toArray⟩ r) rfl rfl 273 _ M9 Tryz.size273 rfl (lZ _ _ _ _ _ _ _ _ _) ?_))
  refine aY9 (kS _ _ w.heap.size (oP kind 1 b1 (.pointer none) (.slice none 0 0) ⟨O.toArray⟩ r) rfl rfl (setRow_heap _ _ _ _ _ _ M9)) rfl ?_
  rw[dG HC.out (by rw[fR,if_neg J.out]),fK (bJ l) k.out,if_pos (bJ U)]
  have hsz:=(Y.up Q).size
  have kR:bB (Ge (w1.heap.size+1)) (Ge (w1.heap.size+1)) x9 (x9.setRow w.heap.size (oP kind 1 b1 (.pointer none) (.slice none 0 0) ⟨O.toArray⟩ r)):=bA (by simp;omega) (sC x9 w.heap.size (oP kind 1 b1 (.pointer none) (.slice none 0 0) ⟨O.toArray⟩ r))
  exact ⟨_,rfl,⟨⟨(.pointer none),(.slice none 0 0),by rw[sM,<-bh.out,<-ai.out];rfl,(bg.carry kR).ge (by omega),(aw.carry kR).ge (by omega)⟩,an.row Z _⟩,av.row (.inl (aO4 _)) _⟩
theorem aA1 {C:dV}{w:World}{i st ins:Nat}(h:PS C w i st ins 0) (kind:Nat) (ak:tx C.L (kH C.L gB i)=kIf) (aj:tx C.L (kH C.L gB i+1)≠Q5):Calls prog 224 #[.pointer (some ⟨C.rb,0,none⟩),.int .i64 kind] w (vU C (rY C w st ins) w (uG C.L kind i)):=by
 have hC:=h.lts.1
 obtain ⟨cr,Y⟩:=h.alloc (.cells Yt 273)
 have H0:(w.alloc (.cells Yt 273)).heap[w.heap.size]?=some (.cells Yt 273 (0,0)):=heap_alloc_new _ _
 have cc:∀f,Hid (eP C.L (kH C.L gB i+1)=.error f)->Hid (cond C.L (kH C.L gB i)=.error f):=fun f hr=>by rw[Hid,Px.cond,if_pos ak,if_neg aj,hr.out]
 have cg:∀e j,Hid (eP C.L (kH C.L gB i+1)=.ok (e,j))->Hid (cond C.L (kH C.L gB i)=.ok (1,e,j)):=fun e j hr=>by rw[Hid,Px.cond,if_pos ak,if_neg aj,hr.out]
 have ch:Hid _:=ak
 have co:Hid _:=aj
 clear ak aj
 have T1:Hid True:=trivial
 have T2:Hid True:=trivial
 have T3:Hid True:=trivial
 have T4:Hid True:=trivial
 have T5:Hid True:=trivial
 go_enter Tryz.func224,Tryz.ntmps224
 go_wp2_with (first
  | (go_at_call 109;clear T1;refine (dS cr ⟨#[105,109,109,101,100,105,97,116,101]⟩ gB rfl (by decide)).mono ?_;rintro e w1 ⟨rfl,ca,J⟩;obtain ⟨b1,bm⟩:∃b1,Hid (b1=decide (tx C.L i=gB)):=⟨_,rfl⟩;rw[<-bm.out];have H1:=blk H0 hC J;obtain ⟨cm,bp⟩:=ca.alloc (.cells (oP kind 1 b1 (.pointer none) (.slice none 0 0) ⟨#[]⟩ false) 273);have H2:=blk H1 hC bp;have c:=ca.lts.1;have aa:w.heap.size≠w1.heap.size:=(by (have:=J.size;simp at this;omega));have K2:(w1.alloc (.cells (oP kind 1 b1 (.pointer none) (.slice none 0 0) ⟨#[]⟩ false) 273)).heap[w1.heap.size]?=some (.cells (oP kind 1 b1 (.pointer none) (.slice none 0 0) ⟨#[]⟩ false) 273 (0,0)):=heap_alloc_new _ _;have ct:=(Y.up J).up bp)
  | (go_at_call 109;clear T2;refine (dM cm ⟨#[105,102]⟩ ch.out (by decide)).mono ?_;rintro e w3 ⟨rfl,cb,al⟩;have H3:=blk H2 hC al;have K3:=blk K2 c al;have cj:=ct.up al;have cu:=al.size)
  | (go_at_call 109;clear T3;refine (cN cb ⟨#[99,111,117,110,116]⟩ co.out).mono ?_;rintro e w4 ⟨rfl,cd,am⟩;have H4:=blk H3 hC am.wide;have K4:=blk K3 c am.wide;have bo:=cj.up am.wide;have cx:=am.size)
  | (go_at_call 226;refine (lN cd).mono ?_;rintro e w7 h7;rcases h7.cases with ⟨f,aw,q,rfl,hq⟩|⟨⟨e7,j7⟩,v7,aw,rfl,⟨bw,cf⟩,bb⟩;(· exact ⟨rfl,by rw[xQ (cc _ aw).out];exact aR.up bo ⟨q,rfl,hq⟩⟩);obtain ⟨p7,rfl⟩:=bw.ptr;have H7:=blk H4 hC bb;have K7:=blk K4 c bb;obtain ⟨k2,z2⟩:=lU K7 2 _ rfl;obtain ⟨HD,KD⟩:=mS H7 K7 aa 2 (.pointer p7);have bq:=cf.put c 2 (.pointer p7);have bu:=(bo.up bb).setCell (p:=⟨w1.heap.size,2,none⟩) (.inl ((Y.up J).size)) (.pointer p7);have ck:=bw.ge (n:=w1.heap.size+1) (aB K4);have bv:=ck.carry (bA (by simp) (cU w7 w1.heap.size 2 (.pointer p7)))))
 have HC:=cg _ _ aw
 have k:∀x∈[C.rb],x<w1.heap.size+1:=by simp;omega
 by_cases hdo:tx C.L j7=kDo
 ·
  have Q:Hid _:=hdo
  go_wp2_with (first
   | (go_at_call 109;clear T4;refine (dM bq ⟨#[100,111]⟩ hdo (by decide)).mono ?_;rintro e x1 ⟨rfl,cp,ae⟩;have M1:=blk HD hC ae;have N1:=blk KD c ae;have bz:=bu.up ae;have cq:=bv.carry (bA k ae);have cn:=ae.size)
   | (go_at_call 225;refine (mW cp).mono ?_;rintro e x2 h2;rcases h2.cases with ⟨f,ab,q,rfl,hq⟩|⟨⟨l2,m2⟩,v2,ab,rfl,⟨⟨cw,br⟩,-,ci⟩,ah⟩;(· exact ⟨rfl,by rw[xP HC.out (by rw[fR,if_pos Q.out];exact ab.out)];exact aR.up bz ⟨q,rfl,hq⟩⟩);obtain ⟨D,cap2,rfl⟩:=aP br.own;have M2:=blk M1 hC ah;have N2:=blk N1 c ah;obtain ⟨k4,z4⟩:=lU N2 4 _ rfl;obtain ⟨M3,N3⟩:=mS M2 N2 aa 4 (.slice D l2.length cap2);have au:=ci.put c 4 (.slice D l2.length cap2);have af:=(bz.up ah).setCell (p:=⟨w1.heap.size,4,none⟩) (.inl ((Y.up J).size)) (.slice D l2.length cap2);have ba:=(cq.carry (bA k ah)).carry (bA (by simp) (cU x2 w1.heap.size 4 (.slice D l2.length cap2)));have cv:=ah.size;have an:=(br.done.ge (n:=w1.heap.size+1) (aB N1)).carry (bA (by simp) (cU x2 w1.heap.size 4 (.slice D l2.length cap2))))
   | (go_at_call 101;clear T5;refine (cD au ⟨#[45,45,62]⟩ mE rfl (by decide)).mono ?_;rintro e x4 h4;rcases h4.cases with ⟨f,r,q,rfl,hq⟩|⟨_,v4,r,rfl,⟨rfl,av⟩,y⟩;(· exact ⟨rfl,by rw[dG HC.out (by rw[fR,if_pos Q.out];exact ab.out),kO (aV r).1,<-(aV r).2];exact aR.up af ⟨q,rfl,hq⟩⟩);have M4:=blk M3 hC y;have N4:=blk N3 c y;have ag:=af.up y;have bc:=ba.carry (bA k y);have bg:=an.carry (bA k y))
   | (go_at_call 102;refine (eZ av).mono ?_;rintro e x5 h5;rcases h5.cases with ⟨f,l,q,rfl,hq⟩|⟨U,ce,l,rfl,⟨rfl,bj⟩,O⟩;(· exact ⟨rfl,by rw[dG HC.out (by rw[fR,if_pos Q.out];exact ab.out),lY (bJ r) l.out];exact aR.up ag ⟨q,rfl,hq⟩⟩);rw[sv];have M5:=blk M4 hC O;have N5:=blk N4 c O;obtain ⟨k5,z5⟩:=lU N5 5 _ rfl;obtain ⟨M6,N6⟩:=mS M5 N5 aa 5 (.string ⟨U.toArray⟩);have bn:=bj.put c 5 (.string ⟨U.toArray⟩);have bi:=(ag.up O).setCell (p:=⟨w1.heap.size,5,none⟩) (.inl ((Y.up J).size)) (.string ⟨U.toArray⟩);have be:=(bc.carry (bA k O)).carry (bA (by simp) (cU x5 w1.heap.size 5 (.string ⟨U.toArray⟩)));have ao:=(bg.carry (bA k O)).carry (bA (by simp) (cU x5 w1.heap.size 5 (.string ⟨U.toArray⟩))))
   | (go_at_call 109;refine (dS bn ⟨#[104,105,115,116,111,114,121]⟩ iS rfl (by decide)).mono ?_;rintro e x7 ⟨rfl,bh,u⟩;obtain ⟨s,ai⟩:∃s,Hid (s=decide (tx C.L (m2+2)=iS)):=⟨_,rfl⟩;rw[<-ai.out];have M7:=blk M6 hC u;have N7:=blk N6 c u;obtain ⟨k6,z6⟩:=lU N7 6 _ rfl;obtain ⟨M8,N8⟩:=mS M7 N7 aa 6 (.bool s);have ap:=bh.put c 6 (.bool s);have ac:=(bi.up u).setCell (p:=⟨w1.heap.size,6,none⟩) (.inl ((Y.up J).size)) (.bool s);have bf:=(be.carry (bA k u)).carry (bA (by simp) (cU x7 w1.heap.size 6 (.bool s)));have ax:=(ao.carry (bA k u)).carry (bA (by simp) (cU x7 w1.heap.size 6 (.bool s))))
   | (go_at_call 101;refine (cD ap ⟨#[59]⟩ fE rfl (by decide)).mono ?_;rintro e x9 h9;rcases h9.cases with ⟨f,Z,q,rfl,hq⟩|⟨_,v9,Z,rfl,⟨rfl,ar⟩,I⟩;(· exact ⟨rfl,by rw[dG HC.out (by rw[fR,if_pos Q.out];exact ab.out),fK (bJ r) l.out,if_neg (aV Z).1,<-(aV Z).2];exact aR.up ac ⟨q,rfl,hq⟩⟩);have M9:=blk M8 hC I;have N9:=blk N8 c I;have ay:=ac.up I;have bk:=bf.carry (bA k I);have az:=ax.carry (bA k I))
   | (refine cM rfl 273 (.tmp 5) rfl ⟨w1.heap.size,0,none⟩ rfl (.agg (oP kind 1 b1 (.pointer p7) (.slice D l2.length cap2) ⟨U.toArray⟩ s)) (rX rfl N9) ?_)
   | (refine wpList_store_row rfl 273 (.tmp 4) (.tmp 35) rfl w.heap.size (oP kind 1 b1 (.pointer p7) (.slice D l2.length cap2) ⟨U.toArray⟩ s) rfl rfl 273 _ M9 Tryz.size273 rfl (lZ _ _ _ _ _ _ _ _ _) ?_))
  refine aY9 (kS _ _ w.heap.size (oP kind 1 b1 (.pointer p7) (.slice D l2.length cap2) ⟨U.toArray⟩ s) rfl rfl (setRow_heap _ _ _ _ _ _ M9)) rfl ?_
  rw[dG HC.out (by rw[fR,if_pos Q.out];exact ab.out),fK (bJ r) l.out,if_pos (bJ Z)]
  have hsz:=(Y.up J).size
  have kR:bB (Ge (w1.heap.size+1)) (Ge (w1.heap.size+1)) x9 (x9.setRow w.heap.size (oP kind 1 b1 (.pointer p7) (.slice D l2.length cap2) ⟨U.toArray⟩ s)):=bA (by simp;omega) (sC x9 w.heap.size (oP kind 1 b1 (.pointer p7) (.slice D l2.length cap2) ⟨U.toArray⟩ s))
  exact ⟨_,rfl,⟨⟨(.pointer p7),(.slice D l2.length cap2),by rw[sM,<-bm.out,<-ai.out];rfl,(bk.carry kR).ge (by omega),(az.carry kR).ge (by omega)⟩,ar.row hC _⟩,ay.row (.inl (aO4 _)) _⟩
 ·
  have Q:Hid _:=hdo
  go_wp2_with (first
   | (go_at_call 109;clear T4;refine (cN bq ⟨#[100,111]⟩ hdo).mono ?_;rintro e x3 ⟨rfl,au,ad⟩;have M3:=blk HD hC ad.wide;have N3:=blk KD c ad.wide;have af:=bu.up ad.wide;have ba:=bv.carry (bA (X:=[]) (by simp) ad);have an:cJ (Ge (w1.heap.size+1)) x3 [] (.slice none 0 0):=sA _ _;have cn:=ad.size)
   | (go_at_call 101;clear T5;refine (cD au ⟨#[45,45,62]⟩ mE rfl (by decide)).mono ?_;rintro e x4 h4;rcases h4.cases with ⟨f,r,q,rfl,hq⟩|⟨_,v4,r,rfl,⟨rfl,av⟩,y⟩;(· exact ⟨rfl,by rw[dG HC.out (by rw[fR,if_neg Q.out]),kO (aV r).1,<-(aV r).2];exact aR.up af ⟨q,rfl,hq⟩⟩);have M4:=blk M3 hC y;have N4:=blk N3 c y;have ag:=af.up y;have bc:=ba.carry (bA k y);have bg:=an.carry (bA k y))
   | (go_at_call 102;refine (eZ av).mono ?_;rintro e x5 h5;rcases h5.cases with ⟨f,l,q,rfl,hq⟩|⟨U,ce,l,rfl,⟨rfl,bj⟩,O⟩;(· exact ⟨rfl,by rw[dG HC.out (by rw[fR,if_neg Q.out]),lY (bJ r) l.out];exact aR.up ag ⟨q,rfl,hq⟩⟩);rw[sv];have M5:=blk M4 hC O;have N5:=blk N4 c O;obtain ⟨k5,z5⟩:=lU N5 5 _ rfl;obtain ⟨M6,N6⟩:=mS M5 N5 aa 5 (.string ⟨U.toArray⟩);have bn:=bj.put c 5 (.string ⟨U.toArray⟩);have bi:=(ag.up O).setCell (p:=⟨w1.heap.size,5,none⟩) (.inl ((Y.up J).size)) (.string ⟨U.toArray⟩);have be:=(bc.carry (bA k O)).carry (bA (by simp) (cU x5 w1.heap.size 5 (.string ⟨U.toArray⟩)));have ao:=(bg.carry (bA k O)).carry (bA (by simp) (cU x5 w1.heap.size 5 (.string ⟨U.toArray⟩))))
   | (go_at_call 109;refine (dS bn ⟨#[104,105,115,116,111,114,121]⟩ iS rfl (by decide)).mono ?_;rintro e x7 ⟨rfl,bh,u⟩;obtain ⟨s,ai⟩:∃s,Hid (s=decide (tx C.L (j7+2)=iS)):=⟨_,rfl⟩;rw[<-ai.out];have M7:=blk M6 hC u;have N7:=blk N6 c u;obtain ⟨k6,z6⟩:=lU N7 6 _ rfl;obtain ⟨M8,N8⟩:=mS M7 N7 aa 6 (.bool s);have ap:=bh.put c 6 (.bool s);have ac:=(bi.up u).setCell (p:=⟨w1.heap.size,6,none⟩) (.inl ((Y.up J).size)) (.bool s);have bf:=(be.carry (bA k u)).carry (bA (by simp) (cU x7 w1.heap.size 6 (.bool s)));have ax:=(ao.carry (bA k u)).carry (bA (by simp) (cU x7 w1.heap.size 6 (.bool s))))
   | (go_at_call 101;refine (cD ap ⟨#[59]⟩ fE rfl (by decide)).mono ?_;rintro e x9 h9;rcases h9.cases with ⟨f,Z,q,rfl,hq⟩|⟨_,v9,Z,rfl,⟨rfl,ar⟩,I⟩;(· exact ⟨rfl,by rw[dG HC.out (by rw[fR,if_neg Q.out]),fK (bJ r) l.out,if_neg (aV Z).1,<-(aV Z).2];exact aR.up ac ⟨q,rfl,hq⟩⟩);have M9:=blk M8 hC I;have N9:=blk N8 c I;have ay:=ac.up I;have bk:=bf.carry (bA k I);have az:=ax.carry (bA k I))
   | (refine cM rfl 273 (.tmp 5) rfl ⟨w1.heap.size,0,none⟩ rfl (.agg (oP kind 1 b1 (.pointer p7) (.slice none 0 0) ⟨U.toArray⟩ s)) (rX rfl N9) ?_)
   | (refine wpList_store_row rfl 273 (.tmp 4) (.tmp 35) rfl w.heap.size (oP kind 1 b1 (.pointer p7) (.slice none 0 0) ⟨U.toArray⟩ s) rfl rfl 273 _ M9 Tryz.size273 rfl (lZ _ _ _ _ _ _ _ _ _) ?_))
  refine aY9 (kS _ _ w.heap.size (oP kind 1 b1 (.pointer p7) (.slice none 0 0) ⟨U.toArray⟩ s) rfl rfl (setRow_heap _ _ _ _ _ _ M9)) rfl ?_
  rw[dG HC.out (by rw[fR,if_neg Q.out]),fK (bJ r) l.out,if_pos (bJ Z)]
  have hsz:=(Y.up J).size
  have kR:bB (Ge (w1.heap.size+1)) (Ge (w1.heap.size+1)) x9 (x9.setRow w.heap.size (oP kind 1 b1 (.pointer p7) (.slice none 0 0) ⟨U.toArray⟩ s)):=bA (by simp;omega) (sC x9 w.heap.size (oP kind 1 b1 (.pointer p7) (.slice none 0 0) ⟨U.toArray⟩ s))
  exact ⟨_,rfl,⟨⟨(.pointer p7),(.slice none 0 0),by rw[sM,<-bm.out,<-ai.out];rfl,(bk.carry kR).ge (by omega),(az.carry kR).ge (by omega)⟩,ar.row hC _⟩,ay.row (.inl (aO4 _)) _⟩
theorem Jl {C:dV}{w:World}{i st ins:Nat}(h:PS C w i st ins 0) (kind:Nat) (ad:tx C.L (kH C.L gB i)=kIf) (ac:tx C.L (kH C.L gB i+1)=Q5):Calls prog 224 #[.pointer (some ⟨C.rb,0,none⟩),.int .i64 kind] w (vU C (rY C w st ins) w (uG C.L kind i)):=by
 have hC:=h.lts.1
 obtain ⟨cy,Z⟩:=h.alloc (.cells Yt 273)
 have H0:(w.alloc (.cells Yt 273)).heap[w.heap.size]?=some (.cells Yt 273 (0,0)):=heap_alloc_new _ _
 have cf:∀f,Hid (times C.L (kH C.L gB i+2)=.error f)->Hid (cond C.L (kH C.L gB i)=.error f):=fun f hr=>by rw[Hid,Px.cond,if_pos ad,if_pos ac,hr.out]
 have cn:∀n f,Hid (times C.L (kH C.L gB i+2)=.ok n)->Hid (eP C.L (kH C.L gB i+3)=.error f)->Hid (cond C.L (kH C.L gB i)=.error f):=fun n f hr Q=>by rw[Hid,Px.cond,if_pos ad,if_pos ac,hr.out];simp only;rw[Q.out]
 have cj:∀n e j,Hid (times C.L (kH C.L gB i+2)=.ok n)->Hid (eP C.L (kH C.L gB i+3)=.ok (e,j))->Hid (cond C.L (kH C.L gB i)=.ok (n,e,j)):=fun n e j hr Q=>by rw[Hid,Px.cond,if_pos ad,if_pos ac,hr.out];simp only;rw[Q.out]
 have ck:Hid _:=ad
 have cu:Hid _:=ac
 clear ad ac
 have T1:Hid True:=trivial
 have T2:Hid True:=trivial
 have T3:Hid True:=trivial
 have T4:Hid True:=trivial
 have T5:Hid True:=trivial
 go_enter Tryz.func224,Tryz.ntmps224
 go_wp2_with (first
  | (go_at_call 109;clear T1;refine (dS cy ⟨#[105,109,109,101,100,105,97,116,101]⟩ gB rfl (by decide)).mono ?_;rintro e w1 ⟨rfl,cd,u⟩;obtain ⟨b1,bo⟩:∃b1,Hid (b1=decide (tx C.L i=gB)):=⟨_,rfl⟩;rw[<-bo.out];have H1:=blk H0 hC u;obtain ⟨cr,br⟩:=cd.alloc (.cells (oP kind 1 b1 (.pointer none) (.slice none 0 0) ⟨#[]⟩ false) 273);have H2:=blk H1 hC br;have c:=cd.lts.1;have ab:w.heap.size≠w1.heap.size:=(by (have:=u.size;simp at this;omega));have K2:(w1.alloc (.cells (oP kind 1 b1 (.pointer none) (.slice none 0 0) ⟨#[]⟩ false) 273)).heap[w1.heap.size]?=some (.cells (oP kind 1 b1 (.pointer none) (.slice none 0 0) ⟨#[]⟩ false) 273 (0,0)):=heap_alloc_new _ _;have cz:=(Z.up u).up br)
  | (go_at_call 109;clear T2;refine (dM cr ⟨#[105,102]⟩ ck.out (by decide)).mono ?_;rintro e w3 ⟨rfl,ce,al⟩;have H3:=blk H2 hC al;have K3:=blk K2 c al;have cp:=cz.up al;have da:=al.size)
  | (go_at_call 109;clear T3;refine (dM ce ⟨#[99,111,117,110,116]⟩ cu.out (by decide)).mono ?_;rintro e w4 ⟨rfl,cg,an⟩;have H4:=blk H3 hC an;have K4:=blk K3 c an;have bq:=cp.up an;have de:=an.size)
  | (go_at_call 241;refine (Jw cg).mono ?_;rintro e w5 h5;rcases h5.cases with ⟨f,ao,q,rfl,hq⟩|⟨n5,v5,ao,rfl,⟨rfl,cx⟩,am⟩;(· exact ⟨rfl,by rw[xQ (cf _ ao).out];exact aR.up bq ⟨q,rfl,hq⟩⟩);have H5:=blk H4 hC am;have K5:=blk K4 c am;obtain ⟨k3,z3⟩:=lU K5 3 _ rfl;obtain ⟨H6,K6⟩:=mS H5 K5 ab 3 (.int .i64 n5);have co:=cx.put c 3 (.int .i64 n5);have bv:=(bq.up am).setCell (p:=⟨w1.heap.size,3,none⟩) (.inl ((Z.up u).size)) (.int .i64 n5);have dc:=am.size)
  | (go_at_call 226;refine (lN co).mono ?_;rintro e w7 h7;rcases h7.cases with ⟨f,ay,q,rfl,hq⟩|⟨⟨e7,j7⟩,v7,ay,rfl,⟨cb,ci⟩,be⟩;(· exact ⟨rfl,by rw[xQ (cn _ _ ao ay).out];exact aR.up bv ⟨q,rfl,hq⟩⟩);obtain ⟨p7,rfl⟩:=cb.ptr;have H7:=blk H6 hC be;have K7:=blk K6 c be;obtain ⟨k2,z2⟩:=lU K7 2 _ rfl;obtain ⟨HD,KD⟩:=mS H7 K7 ab 2 (.pointer p7);have bu:=ci.put c 2 (.pointer p7);have bz:=(bv.up be).setCell (p:=⟨w1.heap.size,2,none⟩) (.inl ((Z.up u).size)) (.pointer p7);have cq:=cb.ge (n:=w1.heap.size+1) (aB K6);have ca:=cq.carry (bA (by simp) (cU w7 w1.heap.size 2 (.pointer p7)))))
 have HC:=cj _ _ _ ao ay
 have k:∀x∈[C.rb],x<w1.heap.size+1:=by simp;omega
 by_cases hdo:tx C.L j7=kDo
 ·
  have U:Hid _:=hdo
  go_wp2_with (first
   | (go_at_call 109;clear T4;refine (dM bu ⟨#[100,111]⟩ hdo (by decide)).mono ?_;rintro e x1 ⟨rfl,cv,ag⟩;have M1:=blk HD hC ag;have N1:=blk KD c ag;have cc:=bz.up ag;have cw:=ca.carry (bA k ag);have ct:=ag.size)
   | (go_at_call 225;refine (mW cv).mono ?_;rintro e x2 h2;rcases h2.cases with ⟨f,Q,q,rfl,hq⟩|⟨⟨l2,m2⟩,v2,Q,rfl,⟨⟨dd,bw⟩,-,cm⟩,aj⟩;(· exact ⟨rfl,by rw[xP HC.out (by rw[fR,if_pos U.out];exact Q.out)];exact aR.up cc ⟨q,rfl,hq⟩⟩);obtain ⟨I,cap2,rfl⟩:=aP bw.own;have M2:=blk M1 hC aj;have N2:=blk N1 c aj;obtain ⟨k4,z4⟩:=lU N2 4 _ rfl;obtain ⟨M3,N3⟩:=mS M2 N2 ab 4 (.slice I l2.length cap2);have aw:=cm.put c 4 (.slice I l2.length cap2);have ah:=(cc.up aj).setCell (p:=⟨w1.heap.size,4,none⟩) (.inl ((Z.up u).size)) (.slice I l2.length cap2);have bc:=(cw.carry (bA k aj)).carry (bA (by simp) (cU x2 w1.heap.size 4 (.slice I l2.length cap2)));have db:=aj.size;have ap:=(bw.done.ge (n:=w1.heap.size+1) (aB N1)).carry (bA (by simp) (cU x2 w1.heap.size 4 (.slice I l2.length cap2))))
   | (go_at_call 101;clear T5;refine (cD aw ⟨#[45,45,62]⟩ mE rfl (by decide)).mono ?_;rintro e x4 h4;rcases h4.cases with ⟨f,r,q,rfl,hq⟩|⟨_,v4,r,rfl,⟨rfl,ax⟩,D⟩;(· exact ⟨rfl,by rw[dG HC.out (by rw[fR,if_pos U.out];exact Q.out),kO (aV r).1,<-(aV r).2];exact aR.up ah ⟨q,rfl,hq⟩⟩);have M4:=blk M3 hC D;have N4:=blk N3 c D;have ai:=ah.up D;have bf:=bc.carry (bA k D);have bi:=ap.carry (bA k D))
   | (go_at_call 102;refine (eZ ax).mono ?_;rintro e x5 h5;rcases h5.cases with ⟨f,l,q,rfl,hq⟩|⟨Y,ch,l,rfl,⟨rfl,bm⟩,O⟩;(· exact ⟨rfl,by rw[dG HC.out (by rw[fR,if_pos U.out];exact Q.out),lY (bJ r) l.out];exact aR.up ai ⟨q,rfl,hq⟩⟩);rw[sv];have M5:=blk M4 hC O;have N5:=blk N4 c O;obtain ⟨k5,z5⟩:=lU N5 5 _ rfl;obtain ⟨M6,N6⟩:=mS M5 N5 ab 5 (.string ⟨Y.toArray⟩);have bp:=bm.put c 5 (.string ⟨Y.toArray⟩);have bk:=(ai.up O).setCell (p:=⟨w1.heap.size,5,none⟩) (.inl ((Z.up u).size)) (.string ⟨Y.toArray⟩);have bg:=(bf.carry (bA k O)).carry (bA (by simp) (cU x5 w1.heap.size 5 (.string ⟨Y.toArray⟩)));have ar:=(bi.carry (bA k O)).carry (bA (by simp) (cU x5 w1.heap.size 5 (.string ⟨Y.toArray⟩))))
   | (go_at_call 109;refine (dS bp ⟨#[104,105,115,116,111,114,121]⟩ iS rfl (by decide)).mono ?_;rintro e x7 ⟨rfl,bj,y⟩;obtain ⟨s,ak⟩:∃s,Hid (s=decide (tx C.L (m2+2)=iS)):=⟨_,rfl⟩;rw[<-ak.out];have M7:=blk M6 hC y;have N7:=blk N6 c y;obtain ⟨k6,z6⟩:=lU N7 6 _ rfl;obtain ⟨M8,N8⟩:=mS M7 N7 ab 6 (.bool s);have au:=bj.put c 6 (.bool s);have ae:=(bk.up y).setCell (p:=⟨w1.heap.size,6,none⟩) (.inl ((Z.up u).size)) (.bool s);have bh:=(bg.carry (bA k y)).carry (bA (by simp) (cU x7 w1.heap.size 6 (.bool s)));have az:=(ar.carry (bA k y)).carry (bA (by simp) (cU x7 w1.heap.size 6 (.bool s))))
   | (go_at_call 101;refine (cD au ⟨#[59]⟩ fE rfl (by decide)).mono ?_;rintro e x9 h9;rcases h9.cases with ⟨f,aa,q,rfl,hq⟩|⟨_,v9,aa,rfl,⟨rfl,av⟩,J⟩;(· exact ⟨rfl,by rw[dG HC.out (by rw[fR,if_pos U.out];exact Q.out),fK (bJ r) l.out,if_neg (aV aa).1,<-(aV aa).2];exact aR.up ae ⟨q,rfl,hq⟩⟩);have M9:=blk M8 hC J;have N9:=blk N8 c J;have ba:=ae.up J;have bn:=bh.carry (bA k J);have bb:=az.carry (bA k J))
   | (refine cM rfl 273 (.tmp 5) rfl ⟨w1.heap.size,0,none⟩ rfl (.agg (oP kind n5 b1 (.pointer p7) (.slice I l2.length cap2) ⟨Y.toArray⟩ s)) (rX rfl N9) ?_)
   | (refine wpList_store_row rfl 273 (.tmp 4) (.tmp 35) rfl w.heap.size (oP kind n5 b1 (.pointer p7) (.slice I l2.length cap2) ⟨Y.toArray⟩ s) rfl rfl 273 _ M9 Tryz.size273 rfl (lZ _ _ _ _ _ _ _ _ _) ?_))
  refine aY9 (kS _ _ w.heap.size (oP kind n5 b1 (.pointer p7) (.slice I l2.length cap2) ⟨Y.toArray⟩ s) rfl rfl (setRow_heap _ _ _ _ _ _ M9)) rfl ?_
  rw[dG HC.out (by rw[fR,if_pos U.out];exact Q.out),fK (bJ r) l.out,if_pos (bJ aa)]
  have hsz:=(Z.up u).size
  have kR:bB (Ge (w1.heap.size+1)) (Ge (w1.heap.size+1)) x9 (x9.setRow w.heap.size (oP kind n5 b1 (.pointer p7) (.slice I l2.length cap2) ⟨Y.toArray⟩ s)):=bA (by simp;omega) (sC x9 w.heap.size (oP kind n5 b1 (.pointer p7) (.slice I l2.length cap2) ⟨Y.toArray⟩ s))
  exact ⟨_,rfl,⟨⟨(.pointer p7),(.slice I l2.length cap2),by rw[sM,<-bo.out,<-ak.out];rfl,(bn.carry kR).ge (by omega),(bb.carry kR).ge (by omega)⟩,av.row hC _⟩,ba.row (.inl (aO4 _)) _⟩
 ·
  have U:Hid _:=hdo
  go_wp2_with (first
   | (go_at_call 109;clear T4;refine (cN bu ⟨#[100,111]⟩ hdo).mono ?_;rintro e x3 ⟨rfl,aw,af⟩;have M3:=blk HD hC af.wide;have N3:=blk KD c af.wide;have ah:=bz.up af.wide;have bc:=ca.carry (bA (X:=[]) (by simp) af);have ap:cJ (Ge (w1.heap.size+1)) x3 [] (.slice none 0 0):=sA _ _;have ct:=af.size)
   | (go_at_call 101;clear T5;refine (cD aw ⟨#[45,45,62]⟩ mE rfl (by decide)).mono ?_;rintro e x4 h4;rcases h4.cases with ⟨f,r,q,rfl,hq⟩|⟨_,v4,r,rfl,⟨rfl,ax⟩,D⟩;(· exact ⟨rfl,by rw[dG HC.out (by rw[fR,if_neg U.out]),kO (aV r).1,<-(aV r).2];exact aR.up ah ⟨q,rfl,hq⟩⟩);have M4:=blk M3 hC D;have N4:=blk N3 c D;have ai:=ah.up D;have bf:=bc.carry (bA k D);have bi:=ap.carry (bA k D))
   | (go_at_call 102;refine (eZ ax).mono ?_;rintro e x5 h5;rcases h5.cases with ⟨f,l,q,rfl,hq⟩|⟨Y,ch,l,rfl,⟨rfl,bm⟩,O⟩;(· exact ⟨rfl,by rw[dG HC.out (by rw[fR,if_neg U.out]),lY (bJ r) l.out];exact aR.up ai ⟨q,rfl,hq⟩⟩);rw[sv];have M5:=blk M4 hC O;have N5:=blk N4 c O;obtain ⟨k5,z5⟩:=lU N5 5 _ rfl;obtain ⟨M6,N6⟩:=mS M5 N5 ab 5 (.string ⟨Y.toArray⟩);have bp:=bm.put c 5 (.string ⟨Y.toArray⟩);have bk:=(ai.up O).setCell (p:=⟨w1.heap.size,5,none⟩) (.inl ((Z.up u).size)) (.string ⟨Y.toArray⟩);have bg:=(bf.carry (bA k O)).carry (bA (by simp) (cU x5 w1.heap.size 5 (.string ⟨Y.toArray⟩)));have ar:=(bi.carry (bA k O)).carry (bA (by simp) (cU x5 w1.heap.size 5 (.string ⟨Y.toArray⟩))))
   | (go_at_call 109;refine (dS bp ⟨#[104,105,115,116,111,114,121]⟩ iS rfl (by decide)).mono ?_;rintro e x7 ⟨rfl,bj,y⟩;obtain ⟨s,ak⟩:∃s,Hid (s=decide (tx C.L (j7+2)=iS)):=⟨_,rfl⟩;rw[<-ak.out];have M7:=blk M6 hC y;have N7:=blk N6 c y;obtain ⟨k6,z6⟩:=lU N7 6 _ rfl;obtain ⟨M8,N8⟩:=mS M7 N7 ab 6 (.bool s);have au:=bj.put c 6 (.bool s);have ae:=(bk.up y).setCell (p:=⟨w1.heap.size,6,none⟩) (.inl ((Z.up u).size)) (.bool s);have bh:=(bg.carry (bA k y)).carry (bA (by simp) (cU x7 w1.heap.size 6 (.bool s)));have az:=(ar.carry (bA k y)).carry (bA (by simp) (cU x7 w1.heap.size 6 (.bool s))))
   | (go_at_call 101;refine (cD au ⟨#[59]⟩ fE rfl (by decide)).mono ?_;rintro e x9 h9;rcases h9.cases with ⟨f,aa,q,rfl,hq⟩|⟨_,v9,aa,rfl,⟨rfl,av⟩,J⟩;(· exact ⟨rfl,by rw[dG HC.out (by rw[fR,if_neg U.out]),fK (bJ r) l.out,if_neg (aV aa).1,<-(aV aa).2];exact aR.up ae ⟨q,rfl,hq⟩⟩);have M9:=blk M8 hC J;have N9:=blk N8 c J;have ba:=ae.up J;have bn:=bh.carry (bA k J);have bb:=az.carry (bA k J))
   | (refine cM rfl 273 (.tmp 5) rfl ⟨w1.heap.size,0,none⟩ rfl (.agg (oP kind n5 b1 (.pointer p7) (.slice none 0 0) ⟨Y.toArray⟩ s)) (rX rfl N9) ?_)
   | (refine wpList_store_row rfl 273 (.tmp 4) (.tmp 35) rfl w.heap.size (oP kind n5 b1 (.pointer p7) (.slice none 0 0) ⟨Y.toArray⟩ s) rfl rfl 273 _ M9 Tryz.size273 rfl (lZ _ _ _ _ _ _ _ _ _) ?_))
  refine aY9 (kS _ _ w.heap.size (oP kind n5 b1 (.pointer p7) (.slice none 0 0) ⟨Y.toArray⟩ s) rfl rfl (setRow_heap _ _ _ _ _ _ M9)) rfl ?_
  rw[dG HC.out (by rw[fR,if_neg U.out]),fK (bJ r) l.out,if_pos (bJ aa)]
  have hsz:=(Z.up u).size
  have kR:bB (Ge (w1.heap.size+1)) (Ge (w1.heap.size+1)) x9 (x9.setRow w.heap.size (oP kind n5 b1 (.pointer p7) (.slice none 0 0) ⟨Y.toArray⟩ s)):=bA (by simp;omega) (sC x9 w.heap.size (oP kind n5 b1 (.pointer p7) (.slice none 0 0) ⟨Y.toArray⟩ s))
  exact ⟨_,rfl,⟨⟨(.pointer p7),(.slice none 0 0),by rw[sM,<-bo.out,<-ak.out];rfl,(bn.carry kR).ge (by omega),(bb.carry kR).ge (by omega)⟩,av.row hC _⟩,ba.row (.inl (aO4 _)) _⟩
theorem Vs {C:dV}{w:World}{i st ins:Nat}(h:PS C w i st ins 0) (kind:Nat):Calls prog 224 #[.pointer (some ⟨C.rb,0,none⟩),.int .i64 kind] w (vU C (rY C w st ins) w (uG C.L kind i)):=by
 by_cases hif:tx C.L (kH C.L gB i)=kIf
 ·by_cases hco:tx C.L (kH C.L gB i+1)=Q5
  ·exact Jl h kind hif hco
  ·exact aA1 h kind hif hco
 ·exact Oj h kind hif
end
end Go.Proofs.YthieaobjdpfcoaaGreatDoor
