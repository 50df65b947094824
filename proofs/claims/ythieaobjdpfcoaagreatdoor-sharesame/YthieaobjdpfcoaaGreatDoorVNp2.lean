import Derived.Test.YthieaobjdpfcoaaGreatDoorVNo
import Derived.BigQuiet
import Derived.Test.YthieaobjdpfcoaaGreatDoorVNtC
import Derived.Deep.AppendLies
import Derived.Deep.AppendSrc
import Derived.RegionTactic
set_option maxHeartbeats 1000000
namespace Go.Proofs.YthieaobjdpfcoaaGreatDoor
section
open Go.RowKit
namespace Nx
def Ny (n:Nt):Prop:=n.places≤300/\n.first.length≤300/\n.ins.length≤30/\n.outs.length≤30/\n.keeps.length≤60/\n.nums.length≤60/\n.code.length≤120
theorem Ny.small {n:Nt}(h:Ny n):jB n:=⟨by have:=h.1;omega,by have:=h.2.2.2.2.2.2;omega,by have:=h.2.2.2.2.2.1;omega,by have:=h.2.2.1;have:=h.2.2.2.1;have:=h.2.2.2.2.1;omega⟩
section
variable (n:Nt) (w:World) (adF adI adO adK adN adC:Option Addr) (capF capI capO capK capN capC:Nat)
theorem Kt (c:300<n.places) :
    Calls Tryz.prog 20 #[.agg #[.int .i64 n.places,.slice adF n.first.length capF,.slice adI n.ins.length capI,.slice adO n.outs.length capO,.slice adK n.keeps.length capK,.slice adN n.nums.length capN,.slice adC n.code.length capC]] w fun e w'=>e=.returned (.bool false)/\Below w.heap.size w w':=by
 go_enter Tryz.func20,Tryz.ntmps20
 go_wp2
 go_ret
 exact ⟨rfl,aE w _⟩
theorem Su (h:n.places≤300) (c:300<n.first.length) :
    Calls Tryz.prog 20 #[.agg #[.int .i64 n.places,.slice adF n.first.length capF,.slice adI n.ins.length capI,.slice adO n.outs.length capO,.slice adK n.keeps.length capK,.slice adN n.nums.length capN,.slice adC n.code.length capC]] w fun e w'=>e=.returned (.bool false)/\Below w.heap.size w w':=by
 go_enter Tryz.func20,Tryz.ntmps20
 go_wp2
 go_ret
 exact ⟨rfl,aE w _⟩
theorem Ss (h:n.places≤300) (c:n.first.length≤300) (j:30<n.ins.length) :
    Calls Tryz.prog 20 #[.agg #[.int .i64 n.places,.slice adF n.first.length capF,.slice adI n.ins.length capI,.slice adO n.outs.length capO,.slice adK n.keeps.length capK,.slice adN n.nums.length capN,.slice adC n.code.length capC]] w fun e w'=>e=.returned (.bool false)/\Below w.heap.size w w':=by
 go_enter Tryz.func20,Tryz.ntmps20
 go_wp2
 go_ret
 exact ⟨rfl,aE w _⟩
theorem Sr (h:n.places≤300) (c:n.first.length≤300) (k:n.ins.length≤30) (j:30<n.outs.length) :
    Calls Tryz.prog 20 #[.agg #[.int .i64 n.places,.slice adF n.first.length capF,.slice adI n.ins.length capI,.slice adO n.outs.length capO,.slice adK n.keeps.length capK,.slice adN n.nums.length capN,.slice adC n.code.length capC]] w fun e w'=>e=.returned (.bool false)/\Below w.heap.size w w':=by
 go_enter Tryz.func20,Tryz.ntmps20
 go_wp2
 go_ret
 exact ⟨rfl,aE w _⟩
theorem Sq (h:n.places≤300) (c:n.first.length≤300) (k:n.ins.length≤30) (j:n.outs.length≤30) (l:60<n.keeps.length) :
    Calls Tryz.prog 20 #[.agg #[.int .i64 n.places,.slice adF n.first.length capF,.slice adI n.ins.length capI,.slice adO n.outs.length capO,.slice adK n.keeps.length capK,.slice adN n.nums.length capN,.slice adC n.code.length capC]] w fun e w'=>e=.returned (.bool false)/\Below w.heap.size w w':=by
 go_enter Tryz.func20,Tryz.ntmps20
 go_wp2
 go_ret
 exact ⟨rfl,aE w _⟩
theorem So (l:n.places≤300) (j:n.first.length≤300) (c:n.ins.length≤30) (r:n.outs.length≤30) (h:n.keeps.length≤60) (k:60<n.nums.length) :
    Calls Tryz.prog 20 #[.agg #[.int .i64 n.places,.slice adF n.first.length capF,.slice adI n.ins.length capI,.slice adO n.outs.length capO,.slice adK n.keeps.length capK,.slice adN n.nums.length capN,.slice adC n.code.length capC]] w fun e w'=>e=.returned (.bool false)/\Below w.heap.size w w':=by
 go_enter Tryz.func20,Tryz.ntmps20
 go_wp2
 go_ret
 exact ⟨rfl,aE w _⟩
theorem Sm (r:n.places≤300) (k:n.first.length≤300) (h:n.ins.length≤30) (s:n.outs.length≤30) (j:n.keeps.length≤60) (l:n.nums.length≤60) (c:120<n.code.length) :
    Calls Tryz.prog 20 #[.agg #[.int .i64 n.places,.slice adF n.first.length capF,.slice adI n.ins.length capI,.slice adO n.outs.length capO,.slice adK n.keeps.length capK,.slice adN n.nums.length capN,.slice adC n.code.length capC]] w fun e w'=>e=.returned (.bool false)/\Below w.heap.size w w':=by
 go_enter Tryz.func20,Tryz.ntmps20
 go_wp2
 go_ret
 have e:decide ((n.code.length:Int)≤120)=false:=by simp;omega
 exact ⟨congrArg (fun b=>Ending.returned (Value.bool b)) e,aE w _⟩
theorem Sl (r:n.places≤300) (k:n.first.length≤300) (h:n.ins.length≤30) (s:n.outs.length≤30) (j:n.keeps.length≤60) (l:n.nums.length≤60) (c:n.code.length≤120) :
    Calls Tryz.prog 20 #[.agg #[.int .i64 n.places,.slice adF n.first.length capF,.slice adI n.ins.length capI,.slice adO n.outs.length capO,.slice adK n.keeps.length capK,.slice adN n.nums.length capN,.slice adC n.code.length capC]] w fun e w'=>e=.returned (.bool true)/\Below w.heap.size w w':=by
 go_enter Tryz.func20,Tryz.ntmps20
 go_wp2
 go_ret
 have e:decide ((n.code.length:Int)≤120)=true:=by simp;omega
 exact ⟨congrArg (fun b=>Ending.returned (Value.bool b)) e,aE w _⟩
end
theorem Sw (B:Nat) (n:Nt) (w:World) (j s y r l u:Value) (h:eJ B w n j s y r l u) :
    Calls Tryz.prog 20 #[.agg #[.int .i64 n.places,j,s,y,r,l,u]] w fun e w'=>∃b:Bool,e=.returned (.bool b)/\(b=true↔Ny n)/\Below w.heap.size w w':=by
 obtain ⟨adF,_,_,capF,rfl,-,-⟩:=h.f
 obtain ⟨adI,_,_,capI,rfl,-,-⟩:=h.i
 obtain ⟨adO,_,_,capO,rfl,-,-⟩:=h.o
 obtain ⟨adK,_,_,capK,rfl,-,-⟩:=h.k
 obtain ⟨adN,_,_,capN,rfl,-,-⟩:=h.m
 obtain ⟨adC,_,_,capC,rfl,-,-⟩:=h.c
 unfold Ny
 by_cases h0:¬(n.places≤300)
 ·exact (Kt n w adF adI adO adK adN adC capF capI capO capK capN capC  (by omega)).mono fun e w' ⟨he,hb⟩=>⟨false,he,by simp;omega,hb⟩
 replace h0:=Classical.not_not.1 h0
 by_cases h1:¬(n.first.length≤300)
 ·exact (Su n w adF adI adO adK adN adC capF capI capO capK capN capC h0 (by omega)).mono fun e w' ⟨he,hb⟩=>⟨false,he,by simp;omega,hb⟩
 replace h1:=Classical.not_not.1 h1
 by_cases h2:¬(n.ins.length≤30)
 ·exact (Ss n w adF adI adO adK adN adC capF capI capO capK capN capC h0 h1 (by omega)).mono fun e w' ⟨he,hb⟩=>⟨false,he,by simp;omega,hb⟩
 replace h2:=Classical.not_not.1 h2
 by_cases h3:¬(n.outs.length≤30)
 ·exact (Sr n w adF adI adO adK adN adC capF capI capO capK capN capC h0 h1 h2 (by omega)).mono fun e w' ⟨he,hb⟩=>⟨false,he,by simp;omega,hb⟩
 replace h3:=Classical.not_not.1 h3
 by_cases h4:¬(n.keeps.length≤60)
 ·exact (Sq n w adF adI adO adK adN adC capF capI capO capK capN capC h0 h1 h2 h3 (by omega)).mono fun e w' ⟨he,hb⟩=>⟨false,he,by simp;omega,hb⟩
 replace h4:=Classical.not_not.1 h4
 by_cases h5:¬(n.nums.length≤60)
 ·exact (So n w adF adI adO adK adN adC capF capI capO capK capN capC h0 h1 h2 h3 h4 (by omega)).mono fun e w' ⟨he,hb⟩=>⟨false,he,by simp;omega,hb⟩
 replace h5:=Classical.not_not.1 h5
 by_cases h6:¬(n.code.length≤120)
 ·exact (Sm n w adF adI adO adK adN adC capF capI capO capK capN capC h0 h1 h2 h3 h4 h5 (by omega)).mono fun e w' ⟨he,hb⟩=>⟨false,he,by simp;omega,hb⟩
 replace h6:=Classical.not_not.1 h6
 exact (Sl n w adF adI adO adK adN adC capF capI capO capK capN capC h0 h1 h2 h3 h4 h5 h6).mono fun e w' ⟨he,hb⟩=>⟨true,he,by simp;omega,hb⟩
theorem aL4 (ad:Option Addr) (b c n cap k:Nat) (j:k<n) (h:0<n->ad=some ⟨b,c,none⟩) (w:World):(Instr.indexAt 22 (.slice ad n cap) (.int .i64 (k:Int))).run Tryz.prog w=.ok (.pointer (some ⟨b,c+k,none⟩)) w:=by
 obtain rfl:=h (by omega)
 rw[aY6 _ _ _ _ _ _ _ (by kernel_rfl),if_pos ⟨by omega,by omega⟩]
 have e:(sizeOf (Tryz.prog.elem 22)).run Tryz.prog w=.ok 1 w:=by kernel_rfl
 rw[e]
 simp[Result.andThen,Addr.add]
theorem Pp {A A':Nat->Prop}(J D:Value) (zs:List Int) (w:World) (Z:bH A w J zs) (hb:bH A' w D zs) (hl:zs.length≤1000000) :
    Calls Tryz.prog 27 #[J,D] w fun e w'=>e=.returned (.bool true)/\Below w.heap.size w w':=by
 obtain ⟨l,r,y,c1,rfl,p1,I⟩:=Z
 obtain ⟨c,u,o2,c2,rfl,p2,O⟩:=hb
 have H1:Hid (0<zs.length->l=some ⟨r,y,none⟩/\A r):=p1
 have X:Hid (0<zs.length->c=some ⟨u,o2,none⟩/\A' u):=p2
 have Y:Hid _:=I
 have Q2:Hid _:=O
 clear p1 p2 I O
 go_enter Tryz.func27,Tryz.ntmps27
 go_wp2
 go_loopw [5] (fun i wr=>∃k:Nat,k≤zs.length/\i=.int .i64 k/\Below w.heap.size w wr) (fun i _=>zs.length-(intOf i).toNat)
 case atStart=>exact ⟨0,aP4 _,rfl,Below.refl _ _⟩
 case round=>
  obtain ⟨k,hk,rfl,j⟩:=hrel
  have s:Hid _:=j
  clear j
  by_cases hlt:k<zs.length
  ·have Q:=aL4 l r y zs.length c1 k hlt (fun h=>(H1.out h).1)
   have U:=aL4 c u o2 zs.length c2 k hlt (fun h=>(X.out h).1)
   obtain ⟨x,hx⟩:∃x,x=zs.getD k 0:=⟨_,rfl⟩
   have y1:wr.cell? ⟨r,y+k,none⟩=some (.int .i64 x):=by rw[hx];exact bG s.out (Y.out k hlt)
   have y2:wr.cell? ⟨u,o2+k,none⟩=some (.int .i64 x):=by rw[hx];exact bG s.out (Q2.out k hlt)
   clear hx
   go_wp2_with fail
   go_quiet (fail)
   go_wp2_with fail
   go_roundw
   case rel=>exact ⟨k+1,by omega,by go_num,iF s.out ⟨rfl,rfl,rfl,aN4 _,fun _ _=>rfl⟩⟩
   case measure=>simp[intOf];omega
  ·go_wp2
   go_ret
   exact ⟨rfl,s.out⟩
theorem Iq {S B:Nat}{X:List Nat}{w w':World}(h:Fr S X w w') (hB:B≤S) (hX:∀x∈X,B≤x):Below B w w':=
 ⟨h.os,h.tape,h.output,h.size,fun k hk=>h.block k (by omega) (fun hm=>by have:=hX k hm;omega)⟩
theorem Oe.lt {B:Nat}{w:World}{j g:Nat}{n:Nt}{V:List Int}(h:Oe B w j g n V):j<w.heap.size:=by
 obtain ⟨_,_,_,_,_,_,_,c,_⟩:=h.row
 exact aB c
theorem Oe.keep {B:Nat}{w w':World}{j g:Nat}{n:Nt}{V:List Int}(h:Oe B w j g n V) (hs:w.heap.size≤w'.heap.size) (h1:w'.heap[j]?=w.heap[j]?) (I:w'.heap[g]?=w.heap[g]?) (k:∀b,b<B->b<w.heap.size->w'.heap[b]?=w.heap[b]?):Oe B w' j g n V:=by
 obtain ⟨⟨r,U,e,J,D,Z,vp,Y,u,hO,hK,X,s,l⟩,hb,Q,O,gl⟩:=h
 have c:bB (· < B) (· < B) w w':=fun b hb y=>⟨hb,k b hb y⟩
 exact ⟨⟨r,U,e,J,D,Z,vp,by rw[h1];exact Y,u.carry c,hO.carry c,hK.carry c,X.carry c,s.carry c,l.keep I⟩,hb,Q,O,by omega⟩
theorem Oe.fr {B:Nat}{w w':World}{bm g:Nat}{n:Nt}{V:List Int}{X:List Nat}(h:Oe B w bm g n V) (hF:Fr w.heap.size X w w') (h1:bm∉X) (h2:g∉X) (h3:∀x∈X,B≤x):Oe B w' bm g n V:=
 h.keep hF.size (hF.block bm h.lt h1) (hF.block g h.gl h2) (fun b hb hl=>hF.block b hl (fun hm=>by have:=h3 b hm;omega))
def iH (e:TypeId) (B:Nat) (w:World) (v:Value) (zs:List Int):Prop:=w.ownsRow B e 1 v zs.length (zs.map (Value.int .i64))
abbrev aH2:=iH 2
theorem iH.keep {e:TypeId}{B:Nat}{w w':World}{v:Value}{zs:List Int}(h:iH e B w v zs) (l:∀k,v.ownBlock=some k->w'.heap[k]?=w.heap[k]?):iH e B w' v zs:=by
 obtain ⟨r,j⟩:=h
 refine ⟨r,?_⟩
 rcases j with j|⟨g,cap,c,rfl,hB,u,s⟩
 ·exact .inl j
 ·exact .inr ⟨g,cap,c,rfl,hB,by rw[l g rfl];exact u,s⟩
theorem iH.nil (e:TypeId) (B:Nat) (w:World):iH e B w (.slice none 0 0) []:=aY5 _ _ _ _
theorem iH.form {e:TypeId}{B:Nat}{w:World}{v:Value}{zs:List Int}(h:iH e B w v zs):∃ad cap,v=.slice ad zs.length cap/\(∀k,v.ownBlock=some k->B≤k/\k<w.heap.size):=by
 obtain ⟨u,l⟩:=h
 rcases l with ⟨rfl,r⟩|⟨g,cap,j,rfl,hB,s,y⟩
 ·exact ⟨none,0,by rw[r],fun k c=>by simp[Value.ownBlock] at c⟩
 ·refine ⟨_,cap,rfl,fun k c=>?_⟩
  have:g=k:=by simpa [Value.ownBlock] using c
  subst this
  exact ⟨hB,aB s⟩
theorem iH.ints {e:TypeId}{B:Nat}{w:World}{v:Value}{zs:List Int}(h:iH e B w v zs):bH (fun b=>B≤b/\b<w.heap.size) w v zs:=by
 obtain ⟨g,c,hB,l,_⟩:=rV h
 by_cases hp:0<zs.length
 ·exact c.ints fun _=>⟨hB,l hp⟩
 ·obtain ⟨r,cap,e,_⟩:=c
  exact ⟨r,0,0,cap,e,fun h=>absurd h hp,fun k j=>absurd j (by omega)⟩
theorem Z7 {P:Program}{w w':World}{c:Array Oper}{o:Oper}{a:Act}{K:Act->World->Prop}{Q:Exit->Act->World->Prop}{E:Prop}(j:o.guard=none) (s x:Operand) (t:TypeId)
    (u:o.op=.call { callee:=.builtin .append,args:=#[s,x],argTypes:=#[t,t] }) (vs k r:Value) (D:a.eval s=vs) (hx:a.eval x=k) (y:(Builtin.append_ #[t,t] o.type #[vs,k]).run P w=.ok r w') (h:K (a.put o.dst r) w') :
    if Region.wanted o (yielded c a.tmps)=true then Oper.wp P o a w K Q else E:=by
 have l:Region.wanted o (yielded c a.tmps)=true:=by simp[Region.wanted,j]
 rw[if_pos l]
 unfold Oper.wp execOp
 simp only[u,resolve,invoke,builtin,Sem.run_bind,Sem.run_pure,Result.andThen_ok,List.map_toArray,List.map_cons,List.map_nil,D,hx,y]
 exact h
theorem aG9 {A:Nat->Prop}(t e:TypeId) (D:Tryz.prog.underlying t=some (.slice e)) (s:(Tryz.prog.info? e).map (fun i=>(i.zero,i.size,i.bytes))=some (some (.int .i64 0),1,8)) (B:Nat) (w:World) (v x:Value) (zs k:List Int) (h:iH e B w v zs) (hx:bH A w x k) (hB:B≤w.heap.size) (hp:0<zs.length\/0<k.length) (hl:zs.length+k.length≤1000000) :
    ∃g cap w',(Builtin.append_ #[t,t] t #[v,x]).run Tryz.prog w=.ok (.slice (some ⟨g,0,none⟩) (zs.length+k.length) cap) w'/\
     iH e B w' (.slice (some ⟨g,0,none⟩) (zs.length+k.length) cap) (zs++k)/\w.grownBy w' v.ownBlock/\(v.ownBlock=some g\/g=w.heap.size)/\g<w'.heap.size:=by
 obtain ⟨i0,hi,J,O,U⟩:=aY8 s
 obtain ⟨Q,b,X,c,rfl,p1,p2⟩:=hx
 by_cases h0:0<k.length
 ·obtain ⟨rfl,_⟩:=p1 h0
  obtain ⟨g,cap,w',Y,I,h3,h4,h5⟩:=run_append_lies (P:=Tryz.prog) w t t B e i0 (.int .i64 0) 1 8 D hi J O U rfl (by decide) v zs.length _ h ⟨b,X,none⟩ k.length c (k.map (Value.int .i64)) (by simp)
   (fun j u l=>by
    rw[qC]
    rw[aW4] at l
    have r:j<k.length:=by
     rcases aX8 j k.length with r|r
     ·exact r
     ·rw[aX3 r] at l;simp at l
    rw[p2 j r]
    rw[aN3 r] at l
    simpa [iO,r] using l)
   (fun u l=>by obtain ⟨_,_,rfl⟩:=List.mem_map.1 l;rfl) h0 (by unfold maxLen;omega) (by omega) hB _ rfl
  refine ⟨g,cap,w',Y,?_,h3,h4,h5⟩
  unfold iH
  rw[aO6,List.map_append];exact I
 ·obtain rfl:k=[]:=aR2.1 (by omega)
  obtain ⟨ac,I⟩:=id h
  rcases I with ⟨_,ae⟩|⟨g,cap,aa,rfl,ab,hg,hn,hc,hs,Z⟩
  ·simp at hp;omega
  ·have y:Src Tryz.prog i0.size t (.slice Q 0 c) 0 [] w:=by
    cases Q with
    | none=>exact Src.ofNil w D c
    | some a=>exact Src.ofSlice w D a 0 c [] (by simp) (fun j u l=>by simp at l) (fun u l=>by simp at l)
   have Y:=run_append_room_src (P:=Tryz.prog) w t t t e i0 D hi g 0 zs.length cap (.slice Q 0 c) 0 [] y (by omega) (fun j r=>by simp at r) (fun j r=>by simp at r)
   refine ⟨g,cap,w,Y,?_,⟨rfl,rfl,rfl,aN4 _,fun _ _ _=>rfl⟩,.inl rfl,aB hg⟩
   rw[List.append_nil];exact h
theorem aN2 {A:Nat->Prop}(B:Nat) (w:World) (v x:Value) (zs ys:List Int) (h:aH2 B w v zs) (hx:bH A w x ys) (hB:B≤w.heap.size) (hp:0<zs.length\/0<ys.length) (hl:zs.length+ys.length≤1000000) :
    ∃g cap w',(Builtin.append_ #[22,22] 22 #[v,x]).run Tryz.prog w=.ok (.slice (some ⟨g,0,none⟩) (zs.length+ys.length) cap) w'/\
     aH2 B w' (.slice (some ⟨g,0,none⟩) (zs.length+ys.length) cap) (zs++ys)/\w.grownBy w' v.ownBlock/\(v.ownBlock=some g\/g=w.heap.size)/\g<w'.heap.size:=
 aG9 22 2 Tryz.underlying22 Tryz.infoI64 B w v x zs ys h hx hB hp hl
structure TO (B:Nat) (n:Nt) (w0 w:World) (bm g:Nat) (V:List Int) (v:Value) (zs:List Int):Prop where
 m:Oe B w bm g n V
 row:aH2 B w v zs
 f1:v.ownBlock≠some bm
 f2:v.ownBlock≠some g
 bl:Below B w0 w
 hB:B≤w.heap.size
theorem TO.below {B:Nat}{n:Nt}{w0 w w':World}{c g:Nat}{V:List Int}{v:Value}{zs:List Int}(h:TO B n w0 w c g V v zs) (hb:Below w.heap.size w w'):TO B n w0 w' c g V v zs:=by
 obtain ⟨_,_,_,j⟩:=h.row.form
 exact ⟨h.m.fr (Fr.of_below hb []) (by simp) (by simp) (by simp),h.row.keep fun k e=>hb.block k (j k e).2,h.f1,h.f2,h.bl.trans (hb.mono h.hB),aO4 h.hB hb.size⟩
theorem TO.app {A:Nat->Prop}{B:Nat}{n:Nt}{w0 w:World}{r g:Nat}{V:List Int}{v:Value}{zs:List Int}(h:TO B n w0 w r g V v zs) (x:Value) (c:List Int) (hx:bH A w x c) (y:0<zs.length\/0<c.length) (D:zs.length+c.length≤1000000) :
    ∃g1 cap w',(Builtin.append_ #[22,22] 22 #[v,x]).run Tryz.prog w=.ok (.slice (some ⟨g1,0,none⟩) (zs.length+c.length) cap) w'/\
     TO B n w0 w' r g V (.slice (some ⟨g1,0,none⟩) (zs.length+c.length) cap) (zs++c)/\w.grownBy w' v.ownBlock:=by
 obtain ⟨g1,cap,w',J,I,k,j,Q⟩:=aN2 B w v x zs c h.row hx h.hB y D
 obtain ⟨_,_,_,s⟩:=h.row.form
 have u:Fr w.heap.size v.ownBlock.toList w w':=⟨k.os,k.tape,k.output,k.size,fun b hb hx=>k.block b hb (fun e=>hx (by rw[<-e];simp))⟩
 have l:∀b,b∈v.ownBlock.toList->v.ownBlock=some b:=fun b hb=>by simpa using hb
 have e:∀b,(Value.slice (some ⟨g1,0,none⟩) (zs.length+c.length) cap).ownBlock=some b↔g1=b:=fun b=>by simp[Value.ownBlock]
 have O:=h.m.lt;have l2:=h.m.gl
 refine ⟨g1,cap,w',J,⟨h.m.fr u (fun hb=>h.f1 (l _ hb)) (fun hb=>h.f2 (l _ hb)) (fun b hb=>(s b (l b hb)).1),I,fun hb=>?_,fun hb=>?_,?_,aO4 h.hB k.size⟩,k⟩
 ·have:=(e r).1 hb
  rcases j with j|j
  ·exact h.f1 (this▸j)
  ·omega
 ·have:=(e g).1 hb
  rcases j with j|j
  ·exact h.f2 (this▸j)
  ·omega
 ·exact h.bl.trans (Iq u h.hB (fun b hb=>(s b (l b hb)).1))
theorem TO.tick {B:Nat}{n:Nt}{w0 w:World}{c g:Nat}{V:List Int}{v:Value}{zs:List Int}(h:TO B n w0 w c g V v zs) (ins:List Int) (l:Value) (u:bH (· < B) w l ins) (s:Ys n V) :
    Calls Tryz.prog 49 #[.pointer (some ⟨c,0,none⟩),l] w fun e w'=>∃vr,e=.returned vr/\Hid (∃g',TO B n w0 w' c g' (after n V ins) v zs/\bH (fun b=>w.heap.size≤b/\b<g') w' vr (tells n V ins)/\Fr w.heap.size [c,g] w w'/\g'<w'.heap.size):=by
 obtain ⟨_,_,_,r⟩:=h.row.form
 have D:=h.m.lt;have l2:=h.m.gl;have y:=h.m.hb;have I:=h.m.hg
 refine (xU B n V ins c g l w h.m u s).mono fun e w' ⟨vr,g',he,hM,hr,hF,hg1,hg2⟩=>⟨vr,he,g',⟨hM,h.row.keep fun k e=>hF.block k (r k e).2 ?_,h.f1,fun e=>?_,?_,aO4 h.hB hF.size⟩,hr,hF,hg2⟩
 ·intro j
  rcases aV8.1 j with rfl|j
  ·exact h.f1 e
  ·rw[aP1.1 j] at e;exact h.f2 e
 ·have:=(r g' e).2;omega
 ·exact h.bl.trans (Iq hF h.hB (by simp;omega))
theorem aL3 (ad:Option Addr) (b c n cap k:Nat) (j:k<n) (h:0<n->ad=some ⟨b,c,none⟩) (w:World):(Instr.indexAt 27 (.slice ad n cap) (.int .i64 (k:Int))).run Tryz.prog w=.ok (.pointer (some ⟨b,c+k,none⟩)) w:=by
 obtain rfl:=h (by omega)
 rw[aY6 _ _ _ _ _ _ _ (by kernel_rfl),if_pos ⟨by omega,by omega⟩]
 have e:(sizeOf (Tryz.prog.elem 27)).run Tryz.prog w=.ok 1 w:=by kernel_rfl
 rw[e]
 simp[Result.andThen,Addr.add]
theorem Ye (ad:Option Addr) (n cap:Nat) (w:World) (c:40<n) :
    Calls Tryz.prog 6 #[.slice ad n cap] w fun e w'=>e=.returned (.bool false)/\w'=w:=by
 go_enter Tryz.func6,Tryz.ntmps6
 go_wp2
 go_ret
 exact ⟨rfl,rfl⟩
theorem Yf (ad:Option Addr) (n cap b h:Nat) (w:World) (L:Nat->Nat) (Z:n≤40) (y:0<n->ad=some ⟨b,h,none⟩)
    (D:∀k,k<n->∃a c,w.cell? ⟨b,h+k,none⟩=some (.slice a (L k) c)) :
    Calls Tryz.prog 6 #[.slice ad n cap] w fun e w'=>(e=.returned (.bool true)/\(∀k,k<n->L k≤30)\/e=.returned (.bool false)/\¬∀k,k<n->L k≤30)/\w'=w:=by
 have X:Hid (0<n->ad=some ⟨b,h,none⟩):=y
 have Y:Hid (∀k,k<n->∃a c,w.cell? ⟨b,h+k,none⟩=some (.slice a (L k) c)):=D
 clear y D
 go_enter Tryz.func6,Tryz.ntmps6
 go_wp2
 go_loopw [3] (fun i wr=>∃k:Nat,k≤n/\i=.int .i64 k/\Hid (∀j,j<k->L j≤30)/\wr=w) (fun i _=>n-(intOf i).toNat)
 case atStart=>exact ⟨0,aP4 _,rfl,fun j Q=>by omega,rfl⟩
 case round=>
  obtain ⟨k,hk,rfl,u,J⟩:=hrel
  obtain rfl:=J
  by_cases hlt:k<n
  ·have I:=aL3 ad b h n cap k hlt X.out
   obtain ⟨a,c,U⟩:=Y.out k hlt
   obtain ⟨l,s⟩:∃l,l=L k:=⟨_,rfl⟩
   rw[<-s] at U
   have r:Hid (l=L k):=s
   clear s
   by_cases h30:l≤30
   ·go_wp2
    go_roundw
    case rel=>exact ⟨k+1,by omega,by go_num,fun j Q=>by
     by_cases e:j=k
     ·subst e;rw[<-r.out];exact h30
     ·exact u.out j (by omega),by first|trivial|rfl⟩
    case measure=>simp[intOf];omega
   ·go_wp2
    go_ret
    exact ⟨.inr ⟨rfl,fun O=>h30 (by rw[r.out];exact O k hlt)⟩,rfl⟩
  ·obtain rfl:k=n:=by omega
   go_wp2
   go_ret
   exact ⟨.inl ⟨rfl,u.out⟩,rfl⟩
end Nx
end
end Go.Proofs.YthieaobjdpfcoaaGreatDoor
