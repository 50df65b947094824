import Derived.Test.YthieaobjdpfcoaaGreatDoorVNk
import Derived.Deep.AppendSrc
set_option maxRecDepth 100000
set_option maxHeartbeats 4000000
namespace Go.Proofs.YthieaobjdpfcoaaGreatDoor
open Go.Proofs.Tryz (prog)
section
open Go.RowKit
namespace Nx
theorem Iq {S B:Nat}{X:List Nat}{w w':World}(h:Fr S X w w') (hB:B≤S) (hX:∀x∈X,B≤x):Below B w w':=
 ⟨h.os,h.tape,h.output,h.size,fun k hk=>h.block k (by omega) (fun hm=>by have:=hX k hm;omega)⟩
theorem Oe.lt {B:Nat}{w:World}{j g:Nat}{n:Nt}{V:List Int}(h:Oe B w j g n V):j<w.heap.size:=by
 obtain ⟨_,_,_,_,_,_,_,c,_⟩:=h.row
 exact aB c
theorem Oe.keep {B:Nat}{w w':World}{j g:Nat}{n:Nt}{V:List Int}(h:Oe B w j g n V) (hs:w.heap.size≤w'.heap.size) (h1:w'.heap[j]?=w.heap[j]?) (I:w'.heap[g]?=w.heap[g]?) (k:∀b,b<B->b<w.heap.size->w'.heap[b]?=w.heap[b]?):Oe B w' j g n V:=by
 obtain ⟨⟨r,U,e,J,D,Z,vp,Y,u,hO,hK,X,s,l⟩,hb,Q,O,gl⟩:=h
 have c:bB (· < B) (· < B) w w':=fun b hb y=>⟨hb,k b hb y⟩
 exact ⟨⟨r,U,e,J,D,Z,vp,by rw[h1];exact Y,u.carry c,hO.carry c,hK.carry c,X.carry c,s.carry c,l.keep I⟩,hb,Q,O,by omega⟩
theorem Oe.fr {B:Nat}{w w':World}{bm g:Nat}{n:Nt}{V:List Int}{X:List Nat}(h:Oe B w bm g n V) (hF:Fr w.heap.size X w w') (h1:bm∉X) (h2:g∉X) (h3:∀x∈X,B≤x):Oe B w' bm g n V:=
 h.keep hF.size (hF.block bm h.lt h1) (hF.block g h.gl h2) (fun b hb hl=>hF.block b hl (fun hm=>by have:=h3 b hm;omega))
def iH (e:TypeId) (B:Nat) (w:World) (v:Value) (zs:List Int):Prop:=w.ownsRow B e 1 v zs.length (zs.map (Value.int .i64))
abbrev aH2:=iH 2
theorem iH.keep {e:TypeId}{B:Nat}{w w':World}{v:Value}{zs:List Int}(h:iH e B w v zs) (l:∀k,v.ownBlock=some k->w'.heap[k]?=w.heap[k]?):iH e B w' v zs:=by
 obtain ⟨n,j⟩:=h
 refine ⟨n,?_⟩
 rcases j with j|⟨g,cap,c,rfl,hB,s,r⟩
 ·exact .inl j
 ·exact .inr ⟨g,cap,c,rfl,hB,by rw[l g rfl];exact s,r⟩
theorem iH.nil (e:TypeId) (B:Nat) (w:World):iH e B w (.slice none 0 0) []:=aY7 _ _ _ _
theorem iH.form {e:TypeId}{B:Nat}{w:World}{v:Value}{zs:List Int}(h:iH e B w v zs):∃ad cap,v=.slice ad zs.length cap/\(∀k,v.ownBlock=some k->B≤k/\k<w.heap.size):=by
 obtain ⟨s,l⟩:=h
 rcases l with ⟨rfl,n⟩|⟨g,cap,j,rfl,hB,r,u⟩
 ·exact ⟨none,0,by rw[n],fun k c=>by simp[Value.ownBlock] at c⟩
 ·refine ⟨_,cap,rfl,fun k c=>?_⟩
  have:g=k:=by simpa [Value.ownBlock] using c
  subst this
  exact ⟨hB,aB r⟩
theorem iH.ints {e:TypeId}{B:Nat}{w:World}{v:Value}{zs:List Int}(h:iH e B w v zs):bH (fun b=>B≤b/\b<w.heap.size) w v zs:=by
 obtain ⟨g,c,hB,l,_⟩:=rV h
 by_cases hp:0<zs.length
 ·exact c.ints fun _=>⟨hB,l hp⟩
 ·obtain ⟨n,cap,e,_⟩:=c
  exact ⟨n,0,0,cap,e,fun h=>absurd h hp,fun k j=>absurd j (by omega)⟩
theorem Z7 {P:Program}{w w':World}{c:Array Oper}{o:Oper}{a:Act}{K:Act->World->Prop}{Q:Exit->Act->World->Prop}{E:Prop}(j:o.guard=none) (s x:Operand) (t:TypeId)
    (n:o.op=.call { callee:=.builtin .append,args:=#[s,x],argTypes:=#[t,t] }) (vs k r:Value) (y:a.eval s=vs) (hx:a.eval x=k) (u:(Builtin.append_ #[t,t] o.type #[vs,k]).run P w=.ok r w') (h:K (a.put o.dst r) w') :
    if Region.wanted o (yielded c a.tmps)=true then Oper.wp P o a w K Q else E:=by
 have l:Region.wanted o (yielded c a.tmps)=true:=by simp[Region.wanted,j]
 rw[if_pos l]
 unfold Oper.wp execOp
 simp only[n,resolve,invoke,builtin,Sem.run_bind,Sem.run_pure,Result.andThen_ok,List.map_toArray,List.map_cons,List.map_nil,y,hx,u]
 exact h
theorem aG9 {A:Nat->Prop}(t e:TypeId) (y:prog.underlying t=some (.slice e)) (r:(prog.info? e).map (fun i=>(i.zero,i.size,i.bytes))=some (some (.int .i64 0),1,8)) (B:Nat) (w:World) (v x:Value) (zs k:List Int) (h:iH e B w v zs) (hx:bH A w x k) (hB:B≤w.heap.size) (hp:0<zs.length\/0<k.length) (hl:zs.length+k.length≤1000000) :
    ∃g cap w',(Builtin.append_ #[t,t] t #[v,x]).run prog w=.ok (.slice (some ⟨g,0,none⟩) (zs.length+k.length) cap) w'/\
     iH e B w' (.slice (some ⟨g,0,none⟩) (zs.length+k.length) cap) (zs++k)/\w.grownBy w' v.ownBlock/\(v.ownBlock=some g\/g=w.heap.size)/\g<w'.heap.size:=by
 obtain ⟨i0,Z,I,J,Q⟩:=aZ1 r
 obtain ⟨O,b,U,c,rfl,p1,p2⟩:=hx
 by_cases h0:0<k.length
 ·obtain ⟨rfl,_⟩:=p1 h0
  obtain ⟨g,cap,w',X,D,h3,h4,h5⟩:=run_append_lies (P:=prog) w t t B e i0 (.int .i64 0) 1 8 y Z I J Q rfl (by decide) v zs.length _ h ⟨b,U,none⟩ k.length c (k.map (Value.int .i64)) (by simp)
   (fun j u l=>by
    rw[qC]
    rw[aW6] at l
    have n:j<k.length:=by
     rcases aY1 j k.length with n|n
     ·exact n
     ·rw[aX5 n] at l;simp at l
    rw[p2 j n]
    rw[aN4 n] at l
    simpa [iO,n] using l)
   (fun u l=>by obtain ⟨_,_,rfl⟩:=List.mem_map.1 l;rfl) h0 (by unfold maxLen;omega) (by omega) hB _ rfl
  refine ⟨g,cap,w',X,?_,h3,h4,h5⟩
  unfold iH
  rw[aO9,List.map_append];exact D
 ·obtain rfl:k=[]:=aR5.1 (by omega)
  obtain ⟨ac,D⟩:=id h
  rcases D with ⟨_,ae⟩|⟨g,cap,aa,rfl,ab,hg,hn,hc,hs,Y⟩
  ·simp at hp;omega
  ·have s:Src prog i0.size t (.slice O 0 c) 0 [] w:=by
    cases O with
    | none=>exact Src.ofNil w y c
    | some a=>exact Src.ofSlice w y a 0 c [] (by simp) (fun j u l=>by simp at l) (fun u l=>by simp at l)
   have X:=run_append_room_src (P:=prog) w t t t e i0 y Z g 0 zs.length cap (.slice O 0 c) 0 [] s (by omega) (fun j n=>by simp at n) (fun j n=>by simp at n)
   refine ⟨g,cap,w,X,?_,⟨rfl,rfl,rfl,aO4 _,fun _ _ _=>rfl⟩,.inl rfl,aB hg⟩
   rw[List.append_nil];exact h
theorem aN2 {A:Nat->Prop}(B:Nat) (w:World) (v x:Value) (zs ys:List Int) (h:aH2 B w v zs) (hx:bH A w x ys) (hB:B≤w.heap.size) (hp:0<zs.length\/0<ys.length) (hl:zs.length+ys.length≤1000000) :
    ∃g cap w',(Builtin.append_ #[22,22] 22 #[v,x]).run prog w=.ok (.slice (some ⟨g,0,none⟩) (zs.length+ys.length) cap) w'/\
     aH2 B w' (.slice (some ⟨g,0,none⟩) (zs.length+ys.length) cap) (zs++ys)/\w.grownBy w' v.ownBlock/\(v.ownBlock=some g\/g=w.heap.size)/\g<w'.heap.size:=
 aG9 22 2 Tryz.underlying22 Tryz.infoI64 B w v x zs ys h hx hB hp hl
structure TO (B:Nat) (n:Nt) (w0 w:World) (bm g:Nat) (V:List Int) (v:Value) (zs:List Int):Prop where
 m:Oe B w bm g n V
 row:aH2 B w v zs
 f1:v.ownBlock≠some bm
 f2:v.ownBlock≠some g
 bl:Below B w0 w
 hB:B≤w.heap.size
theorem TO.below {B:Nat}{n:Nt}{w0 w w':World}{c g:Nat}{V:List Int}{v:Value}{zs:List Int}(h:TO B n w0 w c g V v zs) (hb:Below w.heap.size w w'):TO B n w0 w' c g V v zs:=by
 obtain ⟨_,_,_,j⟩:=h.row.form
 exact ⟨h.m.fr (Fr.of_below hb []) (by simp) (by simp) (by simp),h.row.keep fun k e=>hb.block k (j k e).2,h.f1,h.f2,h.bl.trans (hb.mono h.hB),aO6 h.hB hb.size⟩
theorem TO.app {A:Nat->Prop}{B:Nat}{n:Nt}{w0 w:World}{r g:Nat}{V:List Int}{v:Value}{zs:List Int}(h:TO B n w0 w r g V v zs) (x:Value) (c:List Int) (hx:bH A w x c) (y:0<zs.length\/0<c.length) (D:zs.length+c.length≤1000000) :
    ∃g1 cap w',(Builtin.append_ #[22,22] 22 #[v,x]).run prog w=.ok (.slice (some ⟨g1,0,none⟩) (zs.length+c.length) cap) w'/\
     TO B n w0 w' r g V (.slice (some ⟨g1,0,none⟩) (zs.length+c.length) cap) (zs++c)/\w.grownBy w' v.ownBlock:=by
 obtain ⟨g1,cap,w',J,I,k,j,Q⟩:=aN2 B w v x zs c h.row hx h.hB y D
 obtain ⟨_,_,_,s⟩:=h.row.form
 have u:Fr w.heap.size v.ownBlock.toList w w':=⟨k.os,k.tape,k.output,k.size,fun b hb hx=>k.block b hb (fun e=>hx (by rw[<-e];simp))⟩
 have l:∀b,b∈v.ownBlock.toList->v.ownBlock=some b:=fun b hb=>by simpa using hb
 have e:∀b,(Value.slice (some ⟨g1,0,none⟩) (zs.length+c.length) cap).ownBlock=some b↔g1=b:=fun b=>by simp[Value.ownBlock]
 have O:=h.m.lt;have l2:=h.m.gl
 refine ⟨g1,cap,w',J,⟨h.m.fr u (fun hb=>h.f1 (l _ hb)) (fun hb=>h.f2 (l _ hb)) (fun b hb=>(s b (l b hb)).1),I,fun hb=>?_,fun hb=>?_,?_,aO6 h.hB k.size⟩,k⟩
 ·have:=(e r).1 hb
  rcases j with j|j
  ·exact h.f1 (this▸j)
  ·omega
 ·have:=(e g).1 hb
  rcases j with j|j
  ·exact h.f2 (this▸j)
  ·omega
 ·exact h.bl.trans (Iq u h.hB (fun b hb=>(s b (l b hb)).1))
theorem TO.tick {B:Nat}{n:Nt}{w0 w:World}{c g:Nat}{V:List Int}{v:Value}{zs:List Int}(h:TO B n w0 w c g V v zs) (ins:List Int) (l:Value) (u:bH (· < B) w l ins) (s:Ys n V) :
 Calls prog 49 #[.pointer (some ⟨c,0,none⟩),l] w fun e w'=>∃vr,e=.returned vr/\Hid (∃g',TO B n w0 w' c g' (after n V ins) v zs/\bH (fun b=>w.heap.size≤b/\b<g') w' vr (tells n V ins)/\Fr w.heap.size [c,g] w w'/\g'<w'.heap.size):=by
 obtain ⟨_,_,_,r⟩:=h.row.form
 have D:=h.m.lt;have l2:=h.m.gl;have y:=h.m.hb;have I:=h.m.hg
 refine (xU B n V ins c g l w h.m u s).mono fun e w' ⟨vr,g',he,hM,hr,hF,hg1,hg2⟩=>⟨vr,he,g',⟨hM,h.row.keep fun k e=>hF.block k (r k e).2 ?_,h.f1,fun e=>?_,?_,aO6 h.hB hF.size⟩,hr,hF,hg2⟩
 ·intro j
  rcases aW5.1 j with rfl|j
  ·exact h.f1 e
  ·rw[aP5.1 j] at e;exact h.f2 e
 ·have:=(r g' e).2;omega
 ·exact h.bl.trans (Iq hF h.hB (by simp;omega))
theorem aL3 (ad:Option Addr) (b c n cap k:Nat) (j:k<n) (h:0<n->ad=some ⟨b,c,none⟩) (w:World):(Instr.indexAt 27 (.slice ad n cap) (.int .i64 (k:Int))).run prog w=.ok (.pointer (some ⟨b,c+k,none⟩)) w:=by
 obtain rfl:=h (by omega)
 rw[aY8 _ _ _ _ _ _ _ (by kernel_rfl),if_pos ⟨by omega,by omega⟩]
 have e:(sizeOf (prog.elem 27)).run prog w=.ok 1 w:=by kernel_rfl
 rw[e]
 simp[Result.andThen,Addr.add]
theorem Ye (ad:Option Addr) (n cap:Nat) (w:World) (c:40<n) :
 Calls prog 6 #[.slice ad n cap] w fun e w'=>e=.returned (.bool false)/\w'=w:=by
 go_enter Tryz.func6,Tryz.ntmps6
 go_wp2
 go_ret
 exact ⟨rfl,rfl⟩
theorem Yf (ad:Option Addr) (n cap b h:Nat) (w:World) (L:Nat->Nat) (Z:n≤40) (y:0<n->ad=some ⟨b,h,none⟩)
    (D:∀k,k<n->∃a c,w.cell? ⟨b,h+k,none⟩=some (.slice a (L k) c)) :
 Calls prog 6 #[.slice ad n cap] w fun e w'=>(e=.returned (.bool true)/\(∀k,k<n->L k≤30)\/e=.returned (.bool false)/\¬∀k,k<n->L k≤30)/\w'=w:=by
 have X:Hid (0<n->ad=some ⟨b,h,none⟩):=y
 have Y:Hid (∀k,k<n->∃a c,w.cell? ⟨b,h+k,none⟩=some (.slice a (L k) c)):=D
 clear y D
 go_enter Tryz.func6,Tryz.ntmps6
 go_wp2
 go_loopw [3] (fun i wr=>∃k:Nat,k≤n/\i=.int .i64 k/\Hid (∀j,j<k->L j≤30)/\wr=w) (fun i _=>n-(intOf i).toNat)
 case atStart=>exact ⟨0,aP6 _,rfl,fun j Q=>by omega,rfl⟩
 case round=>
  obtain ⟨k,hk,rfl,u,J⟩:=hrel
  obtain rfl:=J
  by_cases hlt:k<n
  ·have I:=aL3 ad b h n cap k hlt X.out
   obtain ⟨a,c,U⟩:=Y.out k hlt
   obtain ⟨l,s⟩:=gQx (L k)
   rw[<-s] at U
   have r:Hid (l=L k):=s
   clear s
   by_cases h30:l≤30
   ·go_wp2
    go_roundw
    case rel=>exact ⟨k+1,by omega,by go_num,fun j Q=>by
     by_cases e:j=k
     ·subst e;rw[<-r.out];exact h30
     ·exact u.out j (by omega),by first|trivial|rfl⟩
    case measure=>simp[intOf];omega
   ·go_wp2
    go_ret
    exact ⟨.inr ⟨rfl,fun O=>h30 (by rw[r.out];exact O k hlt)⟩,rfl⟩
  ·obtain rfl:k=n:=by omega
   go_wp2
   go_ret
   exact ⟨.inl ⟨rfl,u.out⟩,rfl⟩
theorem Dn (n:Nt) (w:World) (vF vI vO vK vN vC:Value) (rows:List (List Int)) (ac:Option Addr) (U c ag:Nat) (h:eJ w.heap.size w n vF vI vO vK vN vC) (hs:jB n) (br:n.first.length≤4000) (bk:n.outs.length≤4000) (aj:∀V:List Int,V.length=n.first.length->Ys n V) (ay:(fY n).1=0)
    (bu:rows.length≤40) (au:0<rows.length->ac=some ⟨U,c,none⟩/\U<w.heap.size) (ar:∀k,k<rows.length->∃u,w.cell? ⟨U,c+k,none⟩=some u/\bH (· < w.heap.size) w u (rows.getD k [])) :
 Calls prog 26 #[.agg #[.int .i64 n.places,vF,vI,vO,vK,vN,vC],.slice ac rows.length ag] w fun e w'=>∃v,e=.returned (.tuple #[v,.bool true])/\bH (fun b=>w.heap.size≤b/\b<w'.heap.size) w' v (told n n.first rows rows.length)/\Below w.heap.size w w':=by
 have ai:Calls prog 48 #[.agg #[.int .i64 n.places,vF,vI,vO,vK,vN,vC]] (w.alloc (.cells #[.int .i64 n.places,vF,vI,vO,vK,vN,vC] 26)) fun e w'=>∃r,e=.returned (.tuple #[.pointer (some ⟨r,0,none⟩),.nilIface])/\Hid (∃g,TO w.heap.size n w w' r g n.first (.slice none 0 0) []):=
  (Qz w.heap.size n _ vF vI vO vK vN vC (h.below (aE w _) (aO4 _)) (aE w _).size hs (by omega) ay).mono fun e w' ⟨r,g,he,hM,_,_,_,hb2⟩=>
   ⟨r,he,g,⟨hM,iH.nil _ _ _,by simp[Value.ownBlock],by simp[Value.ownBlock],iF (aE w _) hb2,aO6 (aE w _).size hb2.size⟩⟩
 have ap:Hid ((0<rows.length->ac=some ⟨U,c,none⟩/\U<w.heap.size)/\(∀k,k<rows.length->∃u,w.cell? ⟨U,c+k,none⟩=some u/\bH (· < w.heap.size) w u (rows.getD k []))):=⟨au,ar⟩
 have bg:Hid (∀V:List Int,V.length=n.first.length->Ys n V):=aj
 clear h hs ay au ar aj
 go_enter Tryz.func26,Tryz.ntmps26
 go_wp2_with (go_at_call 48;refine ai.mono ?_;rintro e w1 ⟨r,rfl,X⟩)
 clear ai
 go_loopw [8,9] (fun v i wr=>∃k:Nat,k≤rows.length/\i=.int .i64 k/\Hid (∃g,TO w.heap.size n w wr r g (oR n n.first rows k) v (told n n.first rows k))) (fun _ i _=>rows.length-(intOf i).toNat)
 case atStart=>exact ⟨0,aP6 _,rfl,X.out⟩
 case round=>
  clear X
  obtain ⟨k,hk,rfl,TT⟩:=hrel
  by_cases hlt:k<rows.length
  ·have bp:=aL3 ac U c rows.length ag k hlt (fun h=>(ap.out.1 h).1)
   obtain ⟨g,T0⟩:∃g,Hid (TO w.heap.size n w wr r g (oR n n.first rows k) u8 (told n n.first rows k)):=TT.out
   obtain ⟨zs,aa⟩:=gQx (told n n.first rows k)
   obtain ⟨V,hV⟩:=gQx (oR n n.first rows k)
   rw[<-aa,<-hV] at T0
   have bq:zs.length≤200000:=by
    rw[aa,Z5]
    have:=Nat.mul_le_mul hk (show n.outs.length+1≤4001 by omega)
    omega
   have an:Hid (Ys n V):=bg.out V (by rw[hV,Jt])
   obtain ⟨u,hu,hI⟩:=ap.out.2 k hlt
   have bc:=(ap.out.1 (by omega)).2
   obtain ⟨z,hz⟩:=gQx (rows.getD k [])
   rw[<-hz] at hI
   have HZ:Hid (told n n.first rows (k+1)=(zs++[(zs.length:Int)])++tells n V z):=by unfold Hid;rw[told,<-aa,<-hV,<-hz]
   have bi:Hid (oR n n.first rows (k+1)=after n V z):=by unfold Hid;rw[oR,<-hV,<-hz]
   have D:Hid (∀w',Below w.heap.size w w'->w'.cell? ⟨U,c+k,none⟩=some u/\bH (· < w.heap.size) w' u z):=fun w' hb=>⟨by rw[aY (hb.block U bc)];exact hu,hI.carry fun b Z _=>⟨Z,hb.block b Z⟩⟩
   have c0:=(D.out wr T0.out.bl).1
   obtain ⟨ad,cap,al,_⟩:=T0.out.row.form
   subst al
   have hdr:Below wr.heap.size wr wr.drew:=⟨rfl,rfl,rfl,aO4 _,fun _ _=>rfl⟩
   have s:Hid (TO w.heap.size n w wr.drew r g V (.slice ad zs.length cap) zs):=T0.out.below hdr
   have bf:Below wr.drew.heap.size wr.drew (wr.drew.alloc (.cells #[.int .i64 (zs.length:Int)] 2)):=aE _ _
   have ao:Hid (TO w.heap.size n w (wr.drew.alloc (.cells #[.int .i64 (zs.length:Int)] 2)) r g V (.slice ad zs.length cap) zs):=s.out.below bf
   have I:∀(w':World) (q:Nat),w'.heap[q]?=some (.cells #[.int .i64 (zs.length:Int)] 2 (0,0))->bH (fun b=>b=q) w' (.slice (some ⟨q,0,none⟩) 1 1) [(zs.length:Int)]:=fun w' q hq=>
    ⟨some ⟨q,0,none⟩,q,0,1,rfl,fun _=>⟨rfl,rfl⟩,fun j hj=>by
     obtain rfl:j=0:=by simpa using hj
     exact aF hq 0⟩
   have ah:Hid (∀(w':World) (q:Nat),w'.heap[q]?=some (.cells #[.int .i64 (zs.length:Int)] 2 (0,0))->bH (fun b=>b=q) w' (.slice (some ⟨q,0,none⟩) 1 1) [(zs.length:Int)]):=I
   -- the first append ahead of the tick
   obtain ⟨g1,av,w2,E1,T1,-⟩:=ao.out.app (.slice (some ⟨wr.drew.heap.size,0,none⟩) 1 1) [(zs.length:Int)] (I _ _ (heap_alloc_new _ _)) (.inr (by simp)) (by simp;omega)
   have ae:=T1.tick z u (D.out w2 T1.bl).2 an.out
   have T1:Hid (TO w.heap.size n w w2 r g V (.slice (some ⟨g1,0,none⟩) (zs.length+1) av) (zs++[(zs.length:Int)])):=T1
   have ab:=s.out.tick z u (D.out _ s.out.bl).2 an.out
   have af:=ao.out.tick z u (D.out _ ao.out.bl).2 an.out
   have O:=(D.out w2 T1.out.bl).1
   have aw:(zs++[(zs.length:Int)]).length=zs.length+1:=by simp
   have y:Hid ((zs++[(zs.length:Int)]).length=zs.length+1):=aw
   have ak:Hid ((tells n V z).length≤4000):=by unfold Hid;rw[uM];exact bk
   have bo:Hid ((wr.drew.alloc (.cells #[.int .i64 (zs.length:Int)] 2)).heap[wr.drew.heap.size]?=some (.cells #[.int .i64 (zs.length:Int)] 2 (0,0))):=heap_alloc_new _ _
   clear TT hu hI bc hz aa hV hdr bf I aw
   go_wp2_with fail
   have bh:Hid (r<wr.drew.heap.size/\g<wr.drew.heap.size):=⟨s.out.m.lt,s.out.m.gl⟩
   have be:Hid (∀b,Value.ownBlock (.slice ad zs.length cap)=some b->b<wr.drew.heap.size):=fun b hb=>by obtain ⟨_,_,_,hk⟩:=s.out.row.form;exact (hk b hb).2
   go_region_held3 (fun w'=>w'.cell? ⟨U,c+k,none⟩=some u) (first|exact bj|exact am|exact bn|go_keep)
    ((first
      | (refine Z7 (by rfl) (.tmp 27) (.tmp 30) _ (by rfl) _ _ _ (by rfl) (by rfl) E1 ?_;have bn:=O)
      | (refine Z7 (by rfl) (.tmp 31) (.tmp 37) _ (by rfl) _ _ _ (by rfl) (by rfl) E2 ?_;have bj:=J)
      | (go_at_call 49;refine ae.mono ?_;rintro e w3 ⟨vr,rfl,Y⟩
         obtain ⟨g',T3,R3,-,-⟩:=Y.out
         obtain ⟨g4,l,w4,E2,T4,-⟩:=T3.app vr (tells n V z) R3 (.inl (by simp)) (by have:=ak.out;have:=y.out;omega)
         rw[y.out] at E2 T4
         have am:=(D.out w3 T3.bl).1
         have J:=(D.out w4 T4.bl).1
         have TZ:Hid (∃g,TO w.heap.size n w w4 r g (after n V z) (.slice (some ⟨g4,0,none⟩) (zs.length+1+(tells n V z).length) l) ((zs++[(zs.length:Int)])++tells n V z)):=⟨_,T4⟩
         clear T3 R3 T4 Y ae ab af E1)
      | (go_at_call 49;refine ab.mono ?_;rintro e w3 ⟨vr,rfl,Y⟩
         obtain ⟨g',T3,R3,-,-⟩:=Y.out
         have bb:=T3.below (aE w3 (.cells #[.int .i64 (zs.length:Int)] 2))
         have ba:=R3.carry (A':=fun b=>wr.drew.heap.size≤b/\b<w3.heap.size) (w':=w3.alloc (.cells #[.int .i64 (zs.length:Int)] 2)) (fun b hb Z=>⟨⟨hb.1,Z⟩,Below.heap_alloc _ _ _ Z⟩)
         obtain ⟨gx,ax,w5,Q,T5,G5⟩:=bb.app (.slice (some ⟨w3.heap.size,0,none⟩) 1 1) [(zs.length:Int)] (ah.out _ _ (heap_alloc_new _ _)) (.inr (by simp)) (by simp;omega)
         have R5:=ba.carry (A':=fun _=>True) (w':=w5) (fun b hb Z=>⟨trivial,G5.block b Z (fun e=>by have:=be.out b e.symm;omega)⟩)
         obtain ⟨g4,l,w4,E2,T4,-⟩:=T5.app vr (tells n V z) R5 (.inl (by simp)) (by have:=ak.out;have:=y.out;omega)
         rw[y.out] at E2 T4
         have am:=(D.out w3 T3.bl).1
         have O:=(D.out w5 T5.bl).1
         have J:=(D.out w4 T4.bl).1
         have E1:=Q
         have TZ:Hid (∃g,TO w.heap.size n w w4 r g (after n V z) (.slice (some ⟨g4,0,none⟩) (zs.length+1+(tells n V z).length) l) ((zs++[(zs.length:Int)])++tells n V z)):=⟨_,T4⟩
         clear T3 R3 T4 bb ba T5 G5 R5 Q Y ae ab af)
      | (go_at_call 49;refine af.mono ?_;rintro e w3 ⟨vr,rfl,Y⟩
         obtain ⟨g',T3,R3,F3,-⟩:=Y.out
         have az:=(F3.block wr.drew.heap.size (by simp) (by have:=bh.out;simp;omega)).trans bo.out
         obtain ⟨gx,ax,w5,Q,T5,G5⟩:=T3.app (.slice (some ⟨wr.drew.heap.size,0,none⟩) 1 1) [(zs.length:Int)] (ah.out _ _ az) (.inr (by simp)) (by simp;omega)
         have R5:=R3.carry (A':=fun _=>True) (w':=w5) (fun b hb Z=>⟨trivial,G5.block b Z (fun e=>by have:=be.out b e.symm;have:=hb.1;simp at this;omega)⟩)
         obtain ⟨g4,l,w4,E2,T4,-⟩:=T5.app vr (tells n V z) R5 (.inl (by simp)) (by have:=ak.out;have:=y.out;omega)
         rw[y.out] at E2 T4
         have am:=(D.out w3 T3.bl).1
         have O:=(D.out w5 T5.bl).1
         have J:=(D.out w4 T4.bl).1
         have E1:=Q
         have TZ:Hid (∃g,TO w.heap.size n w w4 r g (after n V z) (.slice (some ⟨g4,0,none⟩) (zs.length+1+(tells n V z).length) l) ((zs++[(zs.length:Int)])++tells n V z)):=⟨_,T4⟩
         clear T3 R3 F3 T4 T5 G5 R5 Q az Y ae ab af)))
   all_goals
    go_wp2_with fail
    go_roundw
    case rel=>exact ⟨k+1,by omega,by go_num,by rw[HZ.out,bi.out];exact TZ.out⟩
    case measure=>simp[intOf];omega
  ·obtain rfl:k=rows.length:=by omega
   obtain ⟨g,T0⟩:∃g,Hid (TO w.heap.size n w wr r g (oR n n.first rows rows.length) u8 (told n n.first rows rows.length)):=TT.out
   go_wp2
   go_ret2
   exact ⟨_,rfl,T0.out.row.ints,T0.out.bl⟩
end Nx
end
section
open Go.RowKit Go.Sort
namespace Nx
theorem aD4 {A:Nat->Prop}{w:World}{v:Value}{zs:List Int}(h:bH A w v zs) (hA:∀b,A b->b<w.heap.size):bH (· < w.heap.size) w v zs:=h.carry fun b hb _=>⟨hA b hb,rfl⟩
theorem aT7 {A:Nat->Prop}{v:Value}{zs:List Int}{w:World}(h:bH A w v zs) (k:zs.length≤100000) :
 Calls prog 24 #[v] w fun e w'=>∃f c,e=.returned (.slice f zs.length c)/\Hid (Below w.heap.size w w'/\bH (fun b=>w.heap.size≤b/\b<w'.heap.size) w' (.slice f zs.length c) zs):=by
 refine (Iv v zs w h k).mono fun e w' ⟨v',he,ho,hb⟩=>?_
 have j:bH _ w' v' zs:=iH.ints (e:=2) (B:=w.heap.size) ho
 obtain ⟨f,_,_,c,rfl,_⟩:=id j
 exact ⟨f,c,he,hb,j⟩
theorem clI {A:Nat->Prop}{v:Value}{zs:List Int}{w:World}(h:bH A w v zs) (s:zs.length≤100000) :
 Calls prog 25 #[v] w fun e w'=>∃f c,e=.returned (.slice f zs.length c)/\Hid (Below w.heap.size w w'/\bH (fun b=>w.heap.size≤b/\b<w'.heap.size) w' (.slice f zs.length c) zs):=by
 have fin:∀(w':World) (k:Value),w'.ownsRow w.heap.size 3 1 k zs.length (zs.map (Value.int .i64))->∃f c,k=.slice f zs.length c/\bH (fun b=>w.heap.size≤b/\b<w'.heap.size) w' (.slice f zs.length c) zs:=fun w' k n=>by
  have l:=iH.ints (e:=3) (B:=w.heap.size) n
  obtain ⟨f,_,_,c,rfl,_⟩:=id l
  exact ⟨f,c,rfl,l⟩
 by_cases hp:0<zs.length
 ·refine (Uh v zs w h s hp).mono fun e w' ⟨k,he,n,_,hb⟩=>?_
  obtain ⟨f,c,rfl,l⟩:=fin w' k n
  exact ⟨f,c,he,hb,l⟩
 ·obtain rfl:zs=[]:=aR5.1 (by omega)
  obtain ⟨y,b,r,cap,rfl,-,-⟩:=h
  cases y with
  | none=>exact (Tryz.slices_Clone_int_nil 0 cap w).mono fun e w' ⟨he,hw⟩=>⟨none,0,he,by rw[hw];exact Below.refl _ _,none,0,0,0,rfl,fun h=>absurd h (by simp),fun j u=>absurd u (by simp)⟩
  | some a=>
   refine (Tryz.slices_Clone_int_zero a cap w).mono fun e w' ⟨k,he,n,_,hb⟩=>?_
   obtain ⟨f,c,rfl,l⟩:=fin w' k n
   exact ⟨f,c,he,hb,l⟩
structure pB (w:World) (adr:Option Addr) (bR offR:Nat) (rows:List (List Int)):Prop where
 few:rows.length≤40
 a:0<rows.length->adr=some ⟨bR,offR,none⟩/\bR<w.heap.size
 c:∀k,k<rows.length->∃u,w.cell? ⟨bR,offR+k,none⟩=some u/\bH (· < w.heap.size) w u (rows.getD k [])
theorem pB.below {w w':World}{adr:Option Addr}{bR offR:Nat}{rows:List (List Int)}(h:pB w adr bR offR rows) (hb:Below w.heap.size w w'):pB w' adr bR offR rows:=
 ⟨h.few,fun hp=>⟨(h.a hp).1,aO5 (h.a hp).2 hb.size⟩,fun k hk=>by
  obtain ⟨u,h1,h2⟩:=h.c k hk
  exact ⟨u,bG hb h1,h2.carry fun b hl _=>⟨aO5 hl hb.size,hb.block b hl⟩⟩⟩
structure kK (n:Nt):Prop where
 p:0≤n.places/\n.places≤4000
 f:(n.first.length:Int)=n.places
 c:n.code.length≤4000
 m:n.nums.length≤4000
 l:n.ins.length+n.outs.length+n.keeps.length≤4000
 s:∀k,k<n.code.length->eA n.places n.nums.length (n.code.getD k eD)=0
 i:∀p∈n.ins,cR n.places p=true
 o:∀p∈n.outs,cR n.places p=true
 k:∀p∈n.keeps,cR n.places p=true
 d:n.ins.Nodup
theorem yH (P:Int) (nums:Nat):∀(l:List Sp) (i:Nat),(lQ P nums l i).1=0->∀s∈l,eA P nums s=0
 | [],_,_,s,hs=>by cases hs
 | a::r,i,h,s,hs=>by
  rw[lQ] at h
  split at h
  ·rename_i h0
   rcases aW5.1 hs with rfl|hs
   ·exact h0
   ·exact yH P nums r _ h s hs
  ·rename_i h0;exact absurd h h0
theorem Ho {n:Nt}(h:fY n=(0,-1)):kK n:=by
 unfold fY at h
 by_cases hw:dD n=0
 ·rw[if_pos hw] at h
  have j:=yH _ _ _ _ (by rw[h])
  unfold dD at hw
  split at hw
  ·omega
  ·split at hw
   ·omega
   ·split at hw
    ·omega
    ·split at hw
     ·omega
     ·rename_i h1 h2 c h4
      have c:=Classical.not_not.1 c
      exact ⟨⟨by omega,by omega⟩,Classical.not_not.1 h2,by omega,by omega,by omega,fun k l=>j _ (by simp[List.getD_eq_getElem?_getD,l]),aX8.1 c.1,aX8.1 c.2.1,aX8.1 c.2.2,Classical.not_not.1 h4⟩
 ·rw[if_neg hw] at h
  injection h with h
  exact absurd h hw
theorem Hn {n:Nt}(h:kK n):fY n=(0,-1):=by
 have j:dD n=0:=by
  unfold dD
  have:=h.p;have:=h.c;have:=h.m;have:=h.l
  rw[if_neg (by omega),if_neg (fun e=>e h.f),if_neg (fun e=>e ⟨aX8.2 h.i,aX8.2 h.o,aX8.2 h.k⟩),if_neg (fun e=>e h.d)]
 unfold fY
 rw[if_pos j,vY _ _ _ h.s]
theorem kK.small {n:Nt}(h:kK n):jB n:=⟨by have:=h.p;omega,by have:=h.c;omega,by have:=h.m;omega,by have:=h.l;omega⟩
theorem kK.few {n:Nt}(h:kK n) (V:List Int) (j:V.length=n.first.length):Ys n V:=by
 have:=h.p;have:=h.f;have:=h.c;have:=h.l
 exact ⟨by omega,by omega,by omega,by omega,by omega⟩
theorem xX {n:Nt}{w:World}{y J Q I D O:Value}{rows:List (List Int)}{r:Option Addr}{X k:Nat}(j:Nat) (s:kK n) (h:eJ w.heap.size w n y J Q I D O) (U:pB w r X k rows) :
 Calls prog 26 #[.agg #[.int .i64 n.places,y,J,Q,I,D,O],.slice r rows.length j] w fun e w'=>∃f c,e=.returned (.tuple #[.slice f (told n n.first rows rows.length).length c,.bool true])/\Hid (Below w.heap.size w w'/\bH (· < w'.heap.size) w' (.slice f (told n n.first rows rows.length).length c) (told n n.first rows rows.length)):=by
 have:=s.p;have:=s.f;have:=s.l
 refine (Dn n w y J Q I D O rows r X k j h s.small (by omega) (by omega) s.few (by rw[Hn s]) U.few U.a U.c).mono fun e w' ⟨v,he,u,hb⟩=>?_
 have u:=aD4 u fun b hb=>hb.2
 obtain ⟨f,_,_,c,rfl,_⟩:=id u
 exact ⟨f,c,he,hb,u⟩
theorem blk {w w':World}{b:Nat}{o:Obj}(h:Below w.heap.size w w') (hb:w.heap[b]?=some o):w'.heap[b]?=some o:=by rw[h.block b (aB hb)];exact hb
theorem aT4 {p q:Prop}(a:p) (b:q):Hid (p/\q):=⟨a,b⟩
theorem aT3 {p q r:Prop}(a:p) (b:q) (c:r):Hid (p/\q/\r):=⟨a,b,c⟩
theorem Z4 {n m:Nt}(R:List Int->List Int->Prop) (h0:R n.first m.first) (hs:∀V V' ins,R V V'->tells m V' ins=tells n V ins/\R (after n V ins) (after m V' ins)) (rows:List (List Int)):∀k,told m m.first rows k=told n n.first rows k/\R (oR n n.first rows k) (oR m m.first rows k)
 | 0=>⟨rfl,h0⟩
 | k+1=>by
  obtain ⟨h1,h2⟩:=Z4 R h0 hs rows k
  obtain ⟨h3,h4⟩:=hs _ _ (rows.getD k []) h2
  exact ⟨by rw[told,told,h1,h3],h4⟩
theorem Tn {w:World}{rows:List (List Int)}{l:Option Addr}{r c:Nat}(j:Nat) (s:0<rows.length->l=some ⟨r,c,none⟩/\r<w.heap.size) (y:∀k,k<rows.length->∃u,w.cell? ⟨r,c+k,none⟩=some u/\bH (· < w.heap.size) w u (rows.getD k [])) :
 Calls prog 6 #[.slice l rows.length j] w fun e w'=>∃b,e=.returned (.bool b)/\w'=w/\Hid (b=true->pB w l r c rows):=by
 by_cases h40:rows.length≤40
 ·refine (Yf l rows.length j r c w (fun k=>(rows.getD k []).length) h40 (fun h=>(s h).1) fun k J=>?_).mono fun e w' ⟨h,hw⟩=>?_
  ·obtain ⟨u,I,O,b,D,cap,rfl,_⟩:=y k J
   exact ⟨O,cap,I⟩
  ·rcases h with ⟨n,_⟩|⟨n,_⟩
   ·exact ⟨true,n,hw,fun _=>⟨h40,s,y⟩⟩
   ·exact ⟨false,n,hw,fun h=>by cases h⟩
 ·exact (Ye l rows.length j w (by omega)).mono fun e w' ⟨n,hw⟩=>⟨false,n,hw,fun h=>by cases h⟩
theorem lJ {w:World}{T:TypeId}{p vF vI vO vK vN vC:Value}{b:Nat}(h:w.heap[b]?=some (.cells #[p,vF,vI,vO,vK,vN,vC] T (0,0))):w.cell? ⟨b,0,none⟩=some p/\w.cell? ⟨b,1,none⟩=some vF/\w.cell? ⟨b,2,none⟩=some vI/\w.cell? ⟨b,3,none⟩=some vO/\w.cell? ⟨b,4,none⟩=some vK/\w.cell? ⟨b,5,none⟩=some vN/\w.cell? ⟨b,6,none⟩=some vC:=
 ⟨aF h 0,aF h 1,aF h 2,aF h 3,aF h 4,aF h 5,aF h 6⟩
theorem Dx {n m:Nt}{w:World}{d1 d2 d3 d4 d5 d6 e1 e2 e3 e4 Z e6:Option Addr}{k1 c1 k2 c2 k3 c3 k4 c4 k5 c5 k6 c6 l1 o1 l2 o2 c o3 l4 o4 l5 o5 l6 o6:Nat}{rows:List (List Int)}{O:Option Addr}{bR y:Nat}(j:Nat) (hn:kK n) (hm:kK m) (hN:eJ w.heap.size w n (.slice d1 k1 c1) (.slice d2 k2 c2) (.slice d3 k3 c3) (.slice d4 k4 c4) (.slice d5 k5 c5) (.slice d6 k6 c6)) (hM:eJ w.heap.size w m (.slice e1 l1 o1) (.slice e2 l2 o2) (.slice e3 c o3) (.slice e4 l4 o4) (.slice Z l5 o5) (.slice e6 l6 o6)) (hR:pB w O bR y rows) (ht:told m m.first rows rows.length=told n n.first rows rows.length) (hi:m.ins.length=n.ins.length) (ho:m.outs.length=n.outs.length) :
 Calls prog 10 #[.agg #[.int .i64 n.places,.slice d1 k1 c1,.slice d2 k2 c2,.slice d3 k3 c3,.slice d4 k4 c4,.slice d5 k5 c5,.slice d6 k6 c6],.agg #[.int .i64 m.places,.slice e1 l1 o1,.slice e2 l2 o2,.slice e3 c o3,.slice e4 l4 o4,.slice Z l5 o5,.slice e6 l6 o6],.slice O rows.length j] w fun e w'=>e=.returned (.bool true)/\Hid (Below w.heap.size w w'):=by
 have q2:k2=n.ins.length:=by obtain ⟨_,_,_,_,h,_⟩:=hN.i;injection h
 have q3:k3=n.outs.length:=by obtain ⟨_,_,_,_,h,_⟩:=hN.o;injection h
 have s2:l2=n.ins.length:=by obtain ⟨_,_,_,_,h,_⟩:=hM.i;rw[<-hi];injection h
 have s3:c=n.outs.length:=by obtain ⟨_,_,_,_,h,_⟩:=hM.o;rw[<-ho];injection h
 obtain ⟨x2,aa⟩:=gQx n.ins.length
 obtain ⟨x3,ac⟩:=gQx n.outs.length
 rw[<-aa] at q2 s2
 rw[<-ac] at q3 s3
 subst q2 q3 s2 s3
 obtain ⟨pn,X⟩:=gQx n.places
 obtain ⟨pm,D⟩:=gQx m.places
 obtain ⟨U,hU⟩:=gQx (w.alloc (.cells #[.int .i64 pn,.slice d1 k1 c1,.slice d2 l2 c2,.slice d3 c c3,.slice d4 k4 c4,.slice d5 k5 c5,.slice d6 k6 c6] 26))
 obtain ⟨W,hW⟩:=gQx (U.alloc (.cells #[.int .i64 pm,.slice e1 l1 o1,.slice e2 l2 o2,.slice e3 c o3,.slice e4 l4 o4,.slice Z l5 o5,.slice e6 l6 o6] 26))
 obtain ⟨q,hq⟩:=gQx w.heap.size
 have sU:U.heap.size=q+1:=by rw[hU,hq];simp
 have bU:Below w.heap.size w U:=by rw[hU];exact aE _ _
 have bW:Below U.heap.size U W:=by rw[hW];exact aE _ _
 have kU:U.heap[q]?=some (.cells #[.int .i64 pn,.slice d1 k1 c1,.slice d2 l2 c2,.slice d3 c c3,.slice d4 k4 c4,.slice d5 k5 c5,.slice d6 k6 c6] 26 (0,0)):=by rw[hU,hq];exact heap_alloc_new _ _
 have kW:W.heap[q]?=some (.cells #[.int .i64 pn,.slice d1 k1 c1,.slice d2 l2 c2,.slice d3 c c3,.slice d4 k4 c4,.slice d5 k5 c5,.slice d6 k6 c6] 26 (0,0)):=by rw[bW.block q (by omega)];exact kU
 have kV:W.heap[q+1]?=some (.cells #[.int .i64 pm,.slice e1 l1 o1,.slice e2 l2 o2,.slice e3 c o3,.slice e4 l4 o4,.slice Z l5 o5,.slice e6 l6 o6] 26 (0,0)):=by rw[hW,<-sU];exact heap_alloc_new _ _
 have bw:Below w.heap.size w W:=iF bU bW
 have HT:Hid (∀w1,Below w.heap.size w w1->eJ w1.heap.size w1 n (.slice d1 k1 c1) (.slice d2 l2 c2) (.slice d3 c c3) (.slice d4 k4 c4) (.slice d5 k5 c5) (.slice d6 k6 c6)/\eJ w1.heap.size w1 m (.slice e1 l1 o1) (.slice e2 l2 o2) (.slice e3 c o3) (.slice e4 l4 o4) (.slice Z l5 o5) (.slice e6 l6 o6)/\pB w1 O bR y rows):=fun w1 hb=>⟨hN.below hb hb.size,hM.below hb hb.size,hR.below hb⟩
 have HM:Hid (kK m/\told m m.first rows rows.length=told n n.first rows rows.length/\pm=m.places):=⟨hm,ht,D⟩
 have k:=xX j hn (HT.out W bw).1 (HT.out W bw).2.2
 obtain ⟨zs,r⟩:=gQx (told n n.first rows rows.length)
 have HZ:Hid (zs.length≤1000000):=by
  unfold Hid
  rw[r,Z5]
  have Q:=hR.few
  have u:n.outs.length+1≤4001:=by have:=hn.l;omega
  have:=Nat.mul_le_mul Q u
  omega
 have ad:Hid (zs=told n n.first rows rows.length):=r
 rw[<-r,<-X] at k
 obtain ⟨z,hz⟩:=gQx zs.length
 rw[<-hz] at k
 have ae:Hid (z=zs.length):=hz
 obtain ⟨a0,a1,a2,a3,a4,a5,a6⟩:=lJ kW
 obtain ⟨b0,b1,b2,b3,b4,b5,b6⟩:=lJ kV
 have HB:Hid (Below w.heap.size w W/\W.heap[q]?=some (.cells #[.int .i64 pn,.slice d1 k1 c1,.slice d2 l2 c2,.slice d3 c c3,.slice d4 k4 c4,.slice d5 k5 c5,.slice d6 k6 c6] 26 (0,0))/\W.heap[q+1]?=some (.cells #[.int .i64 pm,.slice e1 l1 o1,.slice e2 l2 o2,.slice e3 c o3,.slice e4 l4 o4,.slice Z l5 o5,.slice e6 l6 o6] 26 (0,0))):=⟨bw,kW,kV⟩
 rw[hU] at hW
 rw[<-X,<-D]
 clear hn hm hN hM hR ht hi ho aa ac X D hU sU bU bW kU kW kV bw r hz
 go_enter Tryz.func10,Tryz.ntmps10
 go_upto_region 1 with fail
 rw[<-hW,<-hq]
 clear hW hq
 go_upto_region 2 with (go_at_call 26;refine k.mono ?_;rintro e w1 ⟨f1,g1,rfl,Q⟩;clear k)
 have s:=iF HB.out.1 Q.out.1
 have I:=xX j HM.out.1 (HT.out w1 s).2.1 (HT.out w1 s).2.2
 rw[HM.out.2.1,<-HM.out.2.2,<-ad.out,<-ae.out] at I
 have H1:Hid (Below w.heap.size w w1/\bH (· < w1.heap.size) w1 (.slice f1 z g1) zs):=⟨s,Q.out.2⟩
 have j1:=blk Q.out.1 HB.out.2.1
 have Y:=blk Q.out.1 HB.out.2.2
 have ab:=aT4 j1 Y
 clear a0 a1 a2 a3 a4 a5 a6 b0 b1 b2 b3 b4 b5 b6 Q s
 obtain ⟨b0,b1,b2,b3,b4,b5,b6⟩:=lJ Y
 clear j1 Y
 go_upto_region 3 with (go_at_call 26;refine I.mono ?_;rintro e w2 ⟨f2,g2,rfl,u⟩;clear I)
 have j1:=blk u.out.1 ab.out.1
 have Y:=blk u.out.1 ab.out.2
 clear b0 b1 b2 b3 b4 b5 b6
 obtain ⟨-,-,a2,a3,-,-,-⟩:=lJ j1
 obtain ⟨-,-,b2,b3,-,-,-⟩:=lJ Y
 have J:=Pp (A:=fun b=>b<w1.heap.size) (A':=fun b=>b<w2.heap.size) _ _ zs w2 (H1.out.2.carry fun b hb hl=>⟨hb,u.out.1.block b hl⟩) u.out.2 HZ.out
 have HF:=aT3 (iF H1.out.1 u.out.1) j1 Y
 clear j1 Y u
 go_wp2_with (go_at_call 27;refine J.mono ?_;rintro e w3 ⟨rfl,h3⟩;obtain ⟨-,-,x2,x3,-,-,-⟩:=lJ (blk h3 HF.out.2.1);obtain ⟨-,-,y2,y3,-,-,-⟩:=lJ (blk h3 HF.out.2.2))
 go_ret
 exact ⟨rfl,iF HF.out.1 h3⟩
end Nx
end
end Go.Proofs.YthieaobjdpfcoaaGreatDoor
