import Derived.Test.YthieaobjdpfcoaaGreatDoorUYc
import Derived.Test.YthieaobjdpfcoaaGreatDoorUNt5
import Derived.Test.YthieaobjdpfcoaaGreatDoorUYa
import Derived.Deep.RegionLaw
import Derived.Deep.AppendLies
set_option maxRecDepth 100000
set_option maxHeartbeats 8000000
namespace Go.Proofs.YthieaobjdpfcoaaGreatDoor
section
open Go.RowKit Go.Shelf Px Go.Sort
attribute [local go_sem] Oper.semAt_some
namespace Yw
open Nx (Nt Sp bH eD)
open Ew (bM)
theorem aA2 (F:Fence) (n:Nat) (hf:F.fn 55) (y:F.round=none) (hn:1≤n) (l U b h cap:Nat) (ad:Option Addr) (ps:List Int) (D:Nat->Prop) (hD:D U/\(0<ps.length->D b)) (hlen:ps.length≤100000) (J Jx:List Int->World->Prop)
    (hY:∀pre x W,J pre W->pre.length<ps.length->YieldAt F (n-1) Tryz.prog l #[.int .i64 x] W fun e W'=>
     (e=.returned (.bool true)/\J (pre++[x]) W'/\Ve D W W')\/(e=.returned (.bool false)/\Jx (pre++[x]) W'))
    (W:World) (O:W.cell? ⟨U,0,none⟩=some (.slice ad ps.length cap)) (ha:0<ps.length->ad=some ⟨b,h,none⟩) (hc:∀k,k<ps.length->W.cell? ⟨b,h+k,none⟩=some (.int .i64 (ps.getD k 0))) (h0:J [] W) :
    CallsIn F n Tryz.prog 55 #[.func (.yield l) #[] #[],.pointer (some ⟨U,0,none⟩)] W fun e W'=>(∃v,e=.returned v)/\
     ((∃ys,ys=ps/\J ys W')\/(∃pre,True/\Jx pre W')):=by
 obtain ⟨len,X⟩:∃len,len=ps.length:=⟨_,rfl⟩
 have HL:Hid (len=ps.length):=X
 rw[<-X] at O hlen
 clear X
 refine callsIn_of_wp Tryz.func55 rfl hf ?_ y
 simp only[Tryz.ntmps55,List.size_toArray,aO4,aW4,Nat.reduceAdd,Nat.reduceSub,Array.replicate_succ,Array.replicate_zero,List.push_toArray,List.append_toArray,List.nil_append,List.cons_append]
 gi_wp2
 gi_loopw [7] (fun i wr=>∃k:Nat,k≤len/\i=.int .i64 k/\J (ps.take k) wr/\Hid (Ve D W wr)) (fun i _=>len-(intOf i).toNat)
 case atStart=>exact ⟨0,aJ5 _,rfl,by rw[List.take_zero];exact h0,fun _ _=>rfl⟩
 case round=>
  obtain ⟨k,hk,rfl,c,r⟩:=hrel
  by_cases hlt:k<len
  ·have Q:k<ps.length:=by rw[<-HL.out];omega
   obtain ⟨p,Y⟩:∃p,p=ps.getD k 0:=⟨_,rfl⟩
   have s:ps.take (k+1)=ps.take k++[p]:=by
    rw[List.take_add_one,Y,aE5 Q,iO,aE5 Q]
    rfl
   obtain ⟨fn,aa,assign,body,hy,hR⟩:=hY _ p wr c (by rw[List.length_take];omega)
   have j:=r.out b (hD.2 (by omega))
   have p0:=hc k Q
   rw[<-aX1 j,<-Y] at p0
   have ab:=Nx.Q7 ad b h len cap k (by omega) (fun _=>ha (by omega))
   have HH:Hid (J (ps.take k++[p])=J (ps.take (k+1))):=by rw[s];rfl
   clear s Y j hk
   gi_wp2
   refine hR.mono ?_
   rintro e W3 (⟨rfl,Z,I⟩|⟨rfl,u⟩)
   ·gi_wp2
    go_roundw
    case rel=>exact ⟨k+1,by omega,by go_num,by rw[<-HH.out];exact Z,Ih r.out I⟩
    case measure=>simp[intOf];omega
   ·gi_wp2
    refine aX5 (results_none rfl _ _ _) rfl ?_
    exact ⟨⟨_,rfl⟩,.inr ⟨_,trivial,u⟩⟩
  ·obtain rfl:k=len:=by omega
   gi_wp2
   go_end0
   refine ⟨⟨_,rfl⟩,.inl ⟨_,rfl,?_⟩⟩
   rw[HL.out,aR5] at c
   exact c
theorem Dj (ad:Option Addr) (len cap:Nat) (w:World):Calls Tryz.prog 31 #[.slice ad len cap] w fun e w'=>e=.returned (.func (.func 55) #[] #[.pointer (some ⟨w.heap.size,0,none⟩)])/\w'=w.alloc (.cells #[.slice ad len cap] 23):=by
 go_enter Tryz.func31,Tryz.ntmps31
 go_wp2
 go_ret
 exact ⟨rfl,rfl⟩
theorem Jq (n:Nat) (hn:1≤n) {Bs b off cap:Nat}{ad:Option Addr}{ps:List Int}{D:Nat->Prop}(hD:D Bs/\(0<ps.length->D b)) (hlen:ps.length≤100000) {w:World}(hBs:w.cell? ⟨Bs,0,none⟩=some (.slice ad ps.length cap)) (ha:0<ps.length->ad=some ⟨b,off,none⟩) (hc:∀k,k<ps.length->w.cell? ⟨b,off+k,none⟩=some (.int .i64 (ps.getD k 0))) :
    SeqStopsK Fence.wide n Tryz.prog 55 #[.pointer (some ⟨Bs,0,none⟩)] (fun x:Int=>#[.int .i64 x]) (Ve D) (fun ys=>ys=ps) (fun _=>True) ps.length w:=fun l J Jx W hW _ _ hY h0=>by
 have kp:∀(a:Addr) (v:Value),w.cell? a=some v->W.cell? a=some v:=fun a v h=>(hW.cell (p:=a) (aW9 w a h)).trans h
 exact aA2 Fence.wide n trivial rfl hn l Bs b off cap ad ps D hD hlen J Jx hY W (kp _ _ hBs) ha (fun k hk=>kp _ _ (hc k hk)) h0
structure aH1 (w1:World) (q:Nat) (pre:List Int) (W:World):Prop where
 row:∃v,W.heap[q]?=some (.cells #[v] 23 (0,0))/\Nx.iH 3 (q+1) W v pre/\(pre=[]->v=.slice none 0 0)
 fr:bM (fun b=>b=q) w1 W
theorem Pn {w1:World}{q:Nat}(hq:w1.heap.size=q+1):OwnFrom w1.heap.size (aH1 w1 q):=fun s W W' row hs hg hr=>by
 have kp:∀(b:Nat) (o:Obj),W.heap[b]?=some o->o.isCells=true->W'.heap[b]?=W.heap[b]?:=fun b o ho hc=>hg.block b (aB ho) fun e=>by
  obtain ⟨_,o',ho',hc'⟩:=hr b e.symm
  rw[ho] at ho'
  injection ho' with ho'
  subst ho'
  rw[hc] at hc'
  cases hc'
 obtain ⟨v,h1,h2,h3⟩:=hs.row
 refine ⟨⟨v,by rw[kp q _ h1 rfl];exact h1,h2.keep fun g hgb=>?_,h3⟩,hg.os.trans hs.fr.os,hg.tape.trans hs.fr.tape,hg.output.trans hs.fr.output,aH5 hs.fr.size hg.size,fun b hl hn=>?_⟩
 ·obtain ⟨_,h|⟨g',cap,cur,hv,_,hh,_⟩⟩:=id h2
  ·rw[h.1] at hgb;cases hgb
  ·rw[hv] at hgb
   obtain rfl:g'=g:=by simpa [Value.ownBlock] using hgb
   exact kp g' _ hh rfl
 ·have hbl:b<W.heap.size:=aH3 hl hs.fr.size
  rw[<-hs.fr.block b hl hn]
  exact hg.block b hbl fun e=>by have:=(hr b e.symm).1;omega
theorem B5 {A:Nat->Prop}{w:World}{U cap:Nat}{ad:Option Addr}{ps:List Int}(ag:w.cell? ⟨U,0,none⟩=some (.slice ad ps.length cap)) (hp:bH A w (.slice ad ps.length cap) ps) (hlen:ps.length≤100000) :
    Calls Tryz.prog 86 #[.slice none 0 0,.func (.func 55) #[] #[.pointer (some ⟨U,0,none⟩)]] w fun e w'=>∃v,e=.returned v/\Hid (Nx.iH 3 w.heap.size w' v ps/\(ps=[]->v=.slice none 0 0)/\Below w.heap.size w w'):=by
 obtain ⟨q,hq⟩:∃q,q=w.heap.size:=⟨_,rfl⟩
 obtain ⟨av,b,an,ap,he,h1,h2⟩:=hp
 injection he with he1 _ he3
 subst he1 he3
 obtain ⟨w1,Q⟩:∃w1,w1=w.alloc (.cells #[.slice none 0 0] 23):=⟨_,rfl⟩
 have ab:w1.heap.size=q+1:=by rw[Q,hq];simp
 have ac:Below w.heap.size w w1:=by rw[Q];exact aC _ _
 have ah:w1.heap[q]?=some (.cells #[.slice none 0 0] 23 (0,0)):=by rw[Q,hq];exact aX _ _
 have Z:=aN ac ag
 have al:∀k,k<ps.length->w1.cell? ⟨b,an+k,none⟩=some (.int .i64 (ps.getD k 0)):=fun k Y=>aN ac (h2 k Y)
 have HW:Hid (w.alloc (.cells #[.slice none 0 0] 23)=w1/\w.heap.size=q):=⟨Q.symm,hq.symm⟩
 have ai:U<q:=by rw[hq];exact aW9 w _ ag
 have af:0<ps.length->b<q:=fun h=>by rw[hq];exact aW9 w _ (h2 0 h)
 have HQ:Hid (w1.heap.size=q+1/\w1.heap[q]?=some (.cells #[.slice none 0 0] 23 (0,0))/\Below w.heap.size w w1/\U<q/\(0<ps.length->b<q)):=⟨ab,ah,ac,ai,af⟩
 have hD:∀d,(d=U\/0<ps.length/\d=b)->d<w1.heap.size:=fun d hd=>by
  rw[ab]
  rcases hd with rfl|⟨h,rfl⟩
  ·omega
  ·have:=af h;omega
 clear Q hq
 refine (callsIn_wide (n:=6)).1 ?_
 refine callsIn_of_wp_marks Tryz.func86 rfl trivial ?_ rfl
 simp only[Tryz.ntmps86,List.size_toArray,aO4,aW4,Nat.reduceAdd,Nat.reduceSub,Array.replicate_succ,Array.replicate_zero,List.push_toArray,List.append_toArray,List.nil_append,List.cons_append]
 gi_wp2
 rw[HW.out.1,HW.out.2]
 refine wpIn_rangeFunc_ownH (F:=Fence.wide) (n:=6) rfl (by omega) (gf:=55) (lb:=#[.pointer (some ⟨U,0,none⟩)]) rfl trivial (enters_of Tryz.func55 (by kernel_rfl) rfl)
  (Jq (ps:=ps) (D:=fun d=>d=U\/0<ps.length/\d=b) 5 (by omega) ⟨.inl rfl,fun h=>.inr ⟨h,rfl⟩⟩ hlen (w:=w1) Z (fun h=>(h1 h).1) al)
  Ih (Zo hD) (Below.refl _ _) (fun _=>rfl)
  (aH1 w1 q) (fun _ _ _=>False)
  (Pn ab) (fun _ _ _ _ _ hs _ _=>hs) ⟨⟨_,ah,Nx.iH.nil _ _ _,fun _=>rfl⟩,bM.refl _ _⟩
  (fun x a' W=>a'={ tmps:=#[.slice none 0 0,.func (.func 55) #[] #[.pointer (some ⟨U,0,none⟩)],.pointer (some ⟨q,0,none⟩),undef,.slice none 0 0,.int .i64 x,.func (.func 55) #[] #[.pointer (some ⟨U,0,none⟩)],.int .i64 x,undef,undef,undef,undef,undef],defers:=[] })
  (fun x a' s W W' row hs hg hr=>hs) ?assign ?body ?done ?stop
 case assign=>
  intro l pre x W K hi hK
  gi_wp2
  exact hK _ _ (KeepsFrom.refl _ _) (fun _ _=>rfl) hi rfl
 case body=>
  rintro l pre x a' W hl ⟨r,hr⟩ hI rfl aw
  obtain ⟨v,Y,j,J⟩:=id hI.row
  have hsz:q+1≤W.heap.size:=by rw[<-ab];exact hI.fr.size
  obtain ⟨g,I,w6,am,O,y⟩:=aN3 (q+1) (W.alloc (.cells #[.int .i64 x] 3)) v pre x W.heap.size (j.alloc _) (aA (aX _ _) 0 rfl) (by rw[aX3];omega) (by omega)
  have X:∀b,v.ownBlock=some b->q+1≤b/\b<W.heap.size:=by obtain ⟨_,_,_,h⟩:=j.form;exact h
  have aj:∀b,v.ownBlock=some b->∃l T f,W.heap[b]?=some (.cells l T f):=fun b hb=>by
   obtain ⟨_,h|⟨g',_,ae,hv,_,hh,_⟩⟩:=id j
   ·rw[h.1] at hb;cases hb
   ·rw[hv] at hb
    obtain rfl:g'=b:=by simpa [Value.ownBlock] using hb
    exact ⟨_,_,_,hh⟩
  have aa:w6.heap[q]?=some (.cells #[v] 23 (0,0)):=by
   rw[y.block q (by rw[aX3];omega) (fun e=>by have:=(X q e.symm).1;omega),Below.heap_alloc _ _ _ (by omega)]
   exact Y
  have ak:=aA Y 0 (u:=v) rfl
  have ar:=aA aa 0 (u:=v) rfl
  have ay:=aG aa 0
  have HF:Hid (KeepsFrom w1.heap.size W (w6.setCell ⟨q,0,none⟩ (.slice (some ⟨g,0,none⟩) (pre.length+1) I))/\Ve (fun d=>d=U\/0<ps.length/\d=b) W (w6.setCell ⟨q,0,none⟩ (.slice (some ⟨g,0,none⟩) (pre.length+1) I))/\aH1 w1 q (pre++[x]) (w6.setCell ⟨q,0,none⟩ (.slice (some ⟨g,0,none⟩) (pre.length+1) I))):=by
   have f7:bM (fun b=>b=q\/v.ownBlock=some b) W (w6.setCell ⟨q,0,none⟩ (.slice (some ⟨g,0,none⟩) (pre.length+1) I)):=(((bM.refl _ _).alloc _).grown y fun b e=>.inl (.inr e)).setCell (p:=⟨q,0,none⟩) (.inl (.inl rfl)) _
   refine ⟨(sB f7 fun b hb=>?_).from _,fun d hd=>?_,⟨⟨_,cH (l:=[v]) aa 0 _,?_,fun e=>absurd e (by simp)⟩,?_⟩⟩
   ·rcases hb with rfl|hb
    ·exact ⟨_,_,_,Y⟩
    ·exact aj b hb
   ·have ax:d<q:=by
     rcases hd with rfl|⟨h,rfl⟩
     ·exact ai
     ·exact af h
    refine f7.block d (by omega) fun h=>?_
    rcases h with h|h
    ·omega
    ·have:=(X d h).1;omega
   ·refine O.keep fun k ao=>?_
    obtain ⟨_,_,_,h⟩:=O.form
    exact Below.heap_setCell _ _ _ _ (by have:=(h k ao).1;show k≠q;omega)
   ·refine hI.fr.trans f7 fun b hb h=>?_
    rcases h with h|h
    ·exact h
    ·have:=(X b h).1;omega
  clear Y j J O y X aj aa hI
  gi_wp2_with (gi_at_builtin;refine rF rfl _ _ _ rfl _ _ _ rfl rfl am ?_)
  exact HF.out
 case done=>
  rintro D xs W hD rfl hI hK
  obtain ⟨v,Y,j,J⟩:=id hI.row
  have ak:=aA Y 0 (u:=v) rfl
  have HF:Hid (W.heap[D]?=some (.deferred (some []))/\Nx.iH 3 w.heap.size (W.putObj D (.deferred none)) v xs/\(xs=[]->v=.slice none 0 0)/\Below w.heap.size w (W.putObj D (.deferred none))):=by
   have au:=HW.out.2
   refine ⟨hK,?_,J,?_⟩
   ·refine Nx.iH.keep (e:=3) (B:=w.heap.size) (w:=W) ⟨j.1,j.2.imp id fun ⟨g,cp,ae,h1,h2,h3⟩=>⟨g,cp,ae,h1,by omega,h3⟩⟩ fun g hg=>World.putObj_heap_other fun e=>?_
    obtain ⟨_,h|⟨g',_,ae,hv,_,hh,_⟩⟩:=id j
    ·rw[h.1] at hg;cases hg
    ·rw[hv] at hg
     obtain rfl:g'=g:=by simpa [Value.ownBlock] using hg
     rw[e,hK] at hh
     cases hh
   ·have Z:=HQ.out.2.2.1
    have f1:Below w.heap.size w W:=Z.trans (hI.fr.below (B:=w.heap.size) Z.size (fun b hb=>by rw[hb];omega))
    exact f1.grown (grownBy_putObj' _ D (.deferred none)) f1.size (fun b e=>by cases e;omega)
  clear Y j J hI hK
  gi_wp2
  refine ⟨by simp,.inl ⟨_,_,rfl,run_takeDeferred HF.out.1,?_⟩⟩
  exact ⟨_,results_tmp rfl _ _ _,v,rfl,HF.out.2⟩
 case stop=>
  rintro D c pre W _ _ h _
  exact h.elim
theorem Cc {A:Nat->Prop}{w:World}{l cap:Nat}{ad:Option Addr}{ps:List Int}(c:w.cell? ⟨l,0,none⟩=some (.slice ad ps.length cap)) (j:bH A w (.slice ad ps.length cap) ps) (hlen:ps.length≤100000) :
    Calls Tryz.prog 53 #[.func (.func 55) #[] #[.pointer (some ⟨l,0,none⟩)]] w fun e w'=>∃v,e=.returned v/\Hid (Nx.iH 3 w.heap.size w' v ps/\(ps=[]->v=.slice none 0 0)/\Below w.heap.size w w'):=by
 have h:=B5 c j hlen
 clear c j hlen
 go_enter Tryz.func53,Tryz.ntmps53
 go_wp2_with (go_at_call 86;refine h.mono ?_;rintro e w1 ⟨v,rfl,X⟩)
 go_ret
 exact ⟨v,rfl,X⟩
def Y9 (ps:List Int):List Int:=ps.mergeSort fun x y=>decide (x≤y)
theorem Hj (ps:List Int):(Y9 ps).length=ps.length:=List.length_mergeSort ps
theorem aI8 {B:Nat}{w:World}{v:Value}{ps:List Int}(h:Nx.iH 3 B w v ps) (J:ps=[]->v=.slice none 0 0) (D:ps.length≤100000) :
    Calls Tryz.prog 54 #[v] w fun e w'=>e=.returned (.tuple #[])/\Hid (bH (fun b=>B≤b/\b<w'.heap.size) w' v (Y9 ps)/\w.grownBy w' v.ownBlock):=by
 by_cases hp:ps=[]
 ·rw[J hp]
  subst hp
  exact (Tryz.slices_Sort_int_none none 0 w).mono fun e w' ⟨he,hw⟩=>⟨he,⟨none,0,0,0,by simp[Y9],fun h=>absurd h (by simp[Y9]),fun j s=>absurd s (by simp[Y9])⟩,by rw[hw];exact ⟨rfl,rfl,rfl,aF4 _,fun _ _ _=>rfl⟩⟩
 ·have n:v≠.slice none 0 0:=fun e=>by
   rw[e] at h
   obtain ⟨_,h|⟨U,_,u,O,_⟩⟩:=id h
   ·have:=h.2
    exact hp (aO2.1 this)
   ·cases O
  obtain ⟨g,cap,rfl,l,c,Q,y,-,I⟩:=Lib.holds_of_ownsRow (enc:=Value.int .i64) h n
  refine (Nx.Zh g ps.length cap ps (Y9 ps) w I c rfl D rfl).mono fun e w' ⟨he,hw⟩=>⟨he,⟨some ⟨g,0,none⟩,g,0,cap,by rw[Hj],fun _=>⟨rfl,l,aH3 c hw.out.2.size⟩,fun k r=>?_⟩,hw.out.2⟩
  rw[(hw.out.1 k (by simpa using r)).1]
  simp[List.getD_eq_getElem?_getD,r]
theorem Dv {A:Nat->Prop}{w:World}{l cap:Nat}{ad:Option Addr}{ps:List Int}(c:w.cell? ⟨l,0,none⟩=some (.slice ad ps.length cap)) (j:bH A w (.slice ad ps.length cap) ps) (hlen:ps.length≤100000) :
    Calls Tryz.prog 30 #[.func (.func 55) #[] #[.pointer (some ⟨l,0,none⟩)]] w fun e w'=>∃v,e=.returned v/\Hid (bH (fun b=>w.heap.size≤b/\b<w'.heap.size) w' v (Y9 ps)/\Below w.heap.size w w'):=by
 have h:=Cc c j hlen
 clear c j
 go_enter Tryz.func30,Tryz.ntmps30
 go_wp2_with (first
  | (go_at_call 53;refine h.mono ?_;rintro e w1 ⟨v,rfl,X⟩
     have r:=aI8 X.out.1 X.out.2.1 hlen
     clear h)
  | (go_at_call 54;refine r.mono ?_;rintro e w2 ⟨rfl,Y⟩))
 go_ret
 refine ⟨v,rfl,Y.out.1,?_⟩
 obtain ⟨_,_,_,n⟩:=X.out.1.form
 exact X.out.2.2.grown Y.out.2 X.out.2.2.size (fun b e=>(n b e).1)
end Yw
end
section
open Go.RowKit Px
namespace Ew
open Px.Em (Kd Vr)
open Nx (Nt Sp)
theorem Im:(Tryz.prog.info? 2).map (fun i=>(i.zero,i.size,i.bytes))=some (some (.int .i64 0),1,8):=by kernel_rfl
theorem Sk:(Tryz.prog.info? 3).map (fun i=>(i.zero,i.size,i.bytes))=some (some (.int .i64 0),1,8):=by kernel_rfl
theorem Sj:(Tryz.prog.info? 38).map (fun i=>(i.zero,i.size,i.bytes))=some (some (.agg #[.int .i64 0,.int .i64 0,.int .i64 0,.int .i64 0,.int .i64 0]),5,40):=by kernel_rfl
def aU (k:Kd) (x:Int):Kd:={ k with net:={ k.net with first:=k.net.first++[x],places:=k.net.places+1 } }
theorem Af (k:Kd) (x:Int):Em.place x k=some (k.net.places,aU k x):=rfl
def bF (k:Kd) (p:Int):Kd:={ k with net:={ k.net with keeps:=k.net.keeps++[p] } }
theorem Ii (k:Kd) (x:Int):Em.kept x k=some (k.net.places,bF (aU k x) k.net.places):=rfl
def added (k:Kd) (s:Sp):Kd:={ k with net:={ k.net with code:=k.net.code++[s] } }
section
variable {P:Nat->Prop}{w:World}{kb E:Nat}{ns:List bE}{k:Kd}
theorem rQ.place {x:Int}(h:rQ E ns k) (r:E<1000000) (hx:jF x):rQ (E+1) ns (aU k x):=by
 have c:(aU k x).net.first.length=k.net.first.length+1:=by simp[aU]
 have n:=h.pot
 refine ⟨?_,?_,h.code,?_,?_,?_,h.nums,by omega,fun y l=>?_,h.nn,h.vf,h.out⟩
 ·show k.net.places+1=_
  rw[c,h.len];simp
 ·rw[c];show _+yP ns k≤k.net.code.length+_;omega
 ·rw[c];have:=h.keeps;show k.net.keeps.length≤_;omega
 ·rw[c];have:=h.ins;show k.net.ins.length≤_;omega
 ·rw[c];have:=h.outs;show k.net.outs.length≤_;omega
 ·rcases aJ6.1 l with j|j
  ·exact h.nf y j
  ·rw[aI1.1 j];exact hx
theorem rQ.few (h:rQ E ns k):k.net.first.length≤1004000:=by have:=h.pot;have:=h.code;have:=h.e;omega
theorem rQ.kept {x p:Int}(h:rQ E ns k) (j:E<1000000) (hx:jF x):rQ (E+1) ns (bF (aU k x) p):=by
 have c:=h.place j hx
 refine ⟨c.len,c.pot,c.code,?_,c.ins,c.outs,c.nums,c.e,c.nf,c.nn,c.vf,c.out⟩
 have:=h.keeps
 simp only[bF,aU,aH7,aO4,aW4]
 omega
theorem rQ.add {E':Nat}{s:Sp}(h:rQ E' ns k) (u:E'≤E+1) (c:E≤1000000) (r:k.net.code.length<4000):rQ E ns (added k s):=by
 have j:(added k s).net.code.length=k.net.code.length+1:=by simp[added]
 have n:=h.pot
 have l:=h.nums
 refine ⟨h.len,?_,by omega,h.keeps,h.ins,h.outs,?_,c,h.nf,h.nn,h.vf,h.out⟩
 ·rw[j];show k.net.first.length+yP ns k≤_;omega
 ·rw[j];show k.net.nums.length≤_;omega
theorem uX {x:Int}(h:eK E ns P w kb k) (hE:E<1000000) (hx:jF x) :
    Calls Tryz.prog 114 #[.pointer (some ⟨kb,0,none⟩),.int .i64 x] w fun e w'=>e=.returned (.int .i64 k.net.places)/\Hid (eK (E+1) ns (Up P w w') w' kb (aU k x)/\bM P w w'):=by
 obtain ⟨⟨c,J⟩,O,Y⟩:=h
 obtain ⟨i0,hi,aa,ab,ac⟩:=aX6 Im
 have U:w.ownsRow 0 2 1 (c.v 1) k.net.first.length (k.net.first.map (Value.int .i64)):=J.row 1 (by omega) (by omega)
 obtain ⟨ao,cap,I⟩:=aP U
 have c1:=J.cell 1 (u:=c.v 1) rfl
 have HC:Hid (_/\_/\_):=⟨J,O,I⟩
 rw[I] at c1 U
 have hl:=O.few
 have hp:0≤k.net.places/\k.net.places≤1004000:=by have:=O.len;omega
 obtain ⟨p,l⟩:∃p,p=k.net.places:=⟨_,rfl⟩
 have HP:Hid _:=l
 rw[<-l] at hp
 have D:=J.hk
 rw[<-l] at D
 rw[<-l]
 obtain ⟨n,Q⟩:∃n,n=k.net.first.length:=⟨_,rfl⟩
 have HN:Hid _:=Q
 rw[<-Q] at c1 U hl
 obtain ⟨ad,ae⟩:=hp
 have af:=aB D
 have HK:Hid (w.heap[kb]?=some (.cells (c.cells p).toArray 135 (0,0))/\∀g,(Value.slice ao n cap).ownBlock=some g->g≠kb):=⟨D,fun g hg e=>by
  have h1:=J.pr 1 g (by omega) (by omega) (by rw[I,<-Q];exact hg)
  rw[e,J.p0.2] at h1;exact absurd h1.2 (by omega)⟩
 have ag:IntKind.i64.wrap (p+1)=p+1:=by rw[IntKind.wrap_i64];omega
 have ah:IntKind.i64.wrap (p+1-1)=p:=by rw[IntKind.wrap_i64];omega
 clear J O I l Q D
 go_enter Tryz.func114,Tryz.ntmps114
 go_wp2_with (at_builtin;refine wpList_append_own_at _ rfl (.tmp 10) (.tmp 12) 22 rfl 0 2 i0 _ 1 8 Tryz.underlying22 hi aa ab ac rfl (by decide) _ _ _ rfl (U.alloc _) ⟨w.heap.size,0,none⟩ 1 1 [.int .i64 x] rfl rfl (eN _ _ _) (by intro u hu;simp at hu;subst hu;rfl) (by unfold maxLen;omega) (by omega) (by simp) ?_;intro v5 w5 r s _ Z;obtain ⟨a5,m5,e5⟩:=aP r;subst e5;have y:w5.heap[kb]?=some (.cells (c.cells p).toArray 135 (0,0)):=by { rw[s.block kb (by simp;omega) (fun e=>(HK.out.2 kb e.symm) rfl),eB HK.out.1] };have d0:=aA y 0 (u:=.int .i64 p) rfl;have d1:=aA y 1 (u:=c.v 1) rfl;have f0:=aG y 0;have f1:=aG y 1)
 go_ret
 refine ⟨rfl,?_⟩
 obtain ⟨hC,O,I⟩:=HC.out
 rw[<-HN.out] at I
 obtain ⟨g1,g2⟩:=hC.grow (i:=1) (by omega) (by omega) (w0:=w.alloc (.cells #[.int .i64 x] 2)) (n5:={ k.net with first:=k.net.first++[x] }) (aC _ _) (new:=[.int .i64 x]) (by show World.ownsRow _ _ _ _ _ (k.net.first.length+1) _;rw[<-HN.out];exact r) (by rw[I];exact s) (by rw[I];exact Z) rfl (fun j hj=>by unfold rB pP;split<;>first|exact absurd rfl hj|exact ⟨rfl,rfl⟩) ⟨by simp[rB],by simp[pP]⟩
 obtain ⟨g3,g4⟩:=g1.setP (p+1)
 have e:aU k x={ ({ k with net:={ k.net with first:=k.net.first++[x] } }:Kd) with net:={ ({ k with net:={ k.net with first:=k.net.first++[x] } }:Kd).net with places:=p+1 } }:=by rw[HP.out];rfl
 rw[<-e] at g3
 exact ⟨⟨⟨_,g3.mono (Up.size g4.size)⟩,O.place hE hx,iI Y (g2.trans g4 fun b hb X=>X.elim id fun h=>absurd h.1 (by omega)).size⟩,g2.trans g4 fun b hb X=>X.elim id fun h=>absurd h.1 (by omega)⟩
theorem yX {x:Int}(h:eK E ns P w kb k) (hE:E<1000000) (hx:jF x) :
    Calls Tryz.prog 115 #[.pointer (some ⟨kb,0,none⟩),.int .i64 x] w fun e w'=>e=.returned (.int .i64 k.net.places)/\Hid (eK (E+1) ns (Up P w w') w' kb (bF (aU k x) k.net.places)/\bM P w w'):=by
 have l:=uX h hE hx
 have HH:Hid (rQ E ns k/\∀b,P b->b<w.heap.size):=h.2
 obtain ⟨i0,hi,ab,ac,ad⟩:=aX6 Sk
 obtain ⟨p,hp⟩:∃p,p=k.net.places:=⟨_,rfl⟩
 rw[<-hp] at l ⊢
 clear h hp
 go_enter Tryz.func115,Tryz.ntmps115
 go_upto_region 2 with (go_at_call 114;refine l.mono ?_;rintro e w1 ⟨rfl,U⟩)
 obtain ⟨⟨⟨c,I⟩,hF,ae⟩,r⟩:=U.out
 have Y:w1.ownsRow 0 3 1 (c.v 4) (aU k x).net.keeps.length ((aU k x).net.keeps.map (Value.int .i64)):=I.row 4 (by omega) (by omega)
 obtain ⟨ao,cap,D⟩:=aP Y
 have c1:=I.cell 4 (u:=c.v 4) rfl
 have HC:Hid (_/\_/\_):=⟨I,D,r⟩
 rw[D] at c1 Y
 have hl:=hF.few
 have Q:=hF.keeps
 obtain ⟨n,X⟩:∃n,n=(aU k x).net.keeps.length:=⟨_,rfl⟩
 have HN:Hid _:=X
 rw[<-X] at c1 Y Q
 have J:=I.hk
 have ag:=aB J
 have HK:Hid (w1.heap[kb]?=some (.cells (c.cells (aU k x).net.places).toArray 135 (0,0))/\∀g,(Value.slice ao n cap).ownBlock=some g->g≠kb):=⟨J,fun g hg e=>by
  have U:=I.pr 4 g (by omega) (by omega) (by rw[D,<-X];exact hg)
  rw[e,I.p0.2] at U;exact absurd U.2 (by omega)⟩
 have af:n≤1004000:=by omega
 clear I hF D X J hl Q r U l
 go_wp2_with (at_builtin;refine wpList_append_own_at _ rfl (.tmp 14) (.tmp 16) 23 rfl 0 3 i0 _ 1 8 Tryz.underlying23 hi ab ac ad rfl (by decide) _ _ _ rfl (Y.alloc _) ⟨w1.heap.size,0,none⟩ 1 1 [.int .i64 p] rfl rfl (eN _ _ _) (by intro u hu;simp at hu;subst hu;rfl) (by unfold maxLen;omega) (by omega) (by simp) ?_;intro v5 w5 s y _ aa;obtain ⟨a5,m5,e5⟩:=aP s;subst e5;have O:w5.heap[kb]?=some (.cells (c.cells (aU k x).net.places).toArray 135 (0,0)):=by { rw[y.block kb (by simp;omega) (fun e=>(HK.out.2 kb e.symm) rfl),eB HK.out.1] };have d1:=aA O 4 (u:=c.v 4) rfl;have f1:=aG O 4)
 go_ret
 refine ⟨rfl,?_⟩
 obtain ⟨hC,D,r⟩:=HC.out
 rw[<-HN.out] at D
 obtain ⟨g1,Z⟩:=hC.grow (i:=4) (by omega) (by omega) (w0:=w1.alloc (.cells #[.int .i64 p] 3)) (n5:=(bF (aU k x) p).net) (aC _ _) (new:=[.int .i64 p]) (by show World.ownsRow _ _ _ _ _ ((aU k x).net.keeps.length+1) _;rw[<-HN.out];exact s) (by rw[D];exact y) (by rw[D];exact aa) rfl (fun j hj=>by unfold rB pP;split<;>first|exact absurd rfl hj|exact ⟨rfl,rfl⟩) ⟨by simp[rB,bF],by simp[pP,bF]⟩
 exact ⟨⟨⟨_,g1.mono (Up.up r.size Z.size)⟩,HH.out.1.kept hE hx,iI HH.out.2 (r.up Z).size⟩,r.up Z⟩
theorem X8 (s:Sp) (h:eK E ns P w kb k) (J:4000≤k.net.code.length) :
    Calls Tryz.prog 119 #[.pointer (some ⟨kb,0,none⟩),.agg #[.int .i64 s.code,.int .i64 s.dst,.int .i64 s.a,.int .i64 s.b,.int .i64 s.c]] w fun e w'=>e=Vl/\Hid (bM P w w'):=by
 obtain ⟨⟨c,l⟩,y,O⟩:=h
 have I:w.ownsRow 0 38 5 (c.v 6) k.net.code.length (k.net.code.flatMap rS):=l.row 6 (by omega) (by omega)
 obtain ⟨U,cap,r⟩:=aP I
 have c1:=l.cell 6 (u:=c.v 6) rfl
 rw[r] at c1
 have Q:=aB l.hk
 have X:∀(v:Value) (w:World),(Instr.panic (.iface 86 v)).run Tryz.prog w=.halt (.panic (.iface 86 v)) w:=fun _ _=>rfl
 have j:=y.code
 obtain ⟨n,D⟩:∃n,n=k.net.code.length:=⟨_,rfl⟩
 rw[<-D] at c1 J j
 obtain rfl:n=4000:=by omega
 clear l y I r D J j
 go_enter Tryz.func119,Tryz.ntmps119
 go_wp2
 exact ⟨rfl,rfl,(bM.refl _ _).alloc _⟩
theorem Gz {E':Nat}(s:Sp) (h:eK E' ns P w kb k) (hE:E'≤E+1) (aa:E≤1000000) (hc:k.net.code.length<4000) :
    Calls Tryz.prog 119 #[.pointer (some ⟨kb,0,none⟩),.agg #[.int .i64 s.code,.int .i64 s.dst,.int .i64 s.a,.int .i64 s.b,.int .i64 s.c]] w fun e w'=>e=.returned (.tuple #[])/\Hid (eK E ns (Up P w w') w' kb (added k s)/\bM P w w'):=by
 obtain ⟨i0,hi,ac,ad,ae⟩:=aX6 Sj
 obtain ⟨W,hW⟩:∃W,W=w.alloc (.cells #[.int .i64 s.code,.int .i64 s.dst,.int .i64 s.a,.int .i64 s.b,.int .i64 s.c] 38):=⟨_,rfl⟩
 have r:Below w.heap.size w W:=by rw[hW];exact aC _ _
 have l:W.heap[w.heap.size]?=some (.cells #[.int .i64 s.code,.int .i64 s.dst,.int .i64 s.a,.int .i64 s.b,.int .i64 s.c] 38 (0,0)):=by rw[hW];exact aX w _
 obtain ⟨q,U⟩:∃q,q=w.heap.size:=⟨_,rfl⟩
 rw[<-U] at l
 obtain ⟨⟨c,y⟩,Z,I⟩:=h
 have y:=y.below r
 have hr:W.ownsRow 0 38 5 (c.v 6) k.net.code.length (k.net.code.flatMap rS):=y.row 6 (by omega) (by omega)
 obtain ⟨ao,cap,J⟩:=aP hr
 have c1:=y.cell 6 (u:=c.v 6) rfl
 have HC:Hid (CM P W kb k c/\rQ E' ns k/\c.v 6=.slice ao k.net.code.length cap/\Below w.heap.size w W/\∀b,P b->b<w.heap.size):=⟨y,Z,J,r,I⟩
 rw[J] at c1 hr
 obtain ⟨n,hn⟩:∃n,n=k.net.code.length:=⟨_,rfl⟩
 have HN:Hid _:=hn
 rw[<-hn] at c1 hr
 have ah:(n:Int)<4000:=by omega
 have Q:=y.hk
 have aj:=aB Q
 have HK:Hid (W.heap[kb]?=some (.cells (c.cells k.net.places).toArray 135 (0,0))/\∀g,(Value.slice ao n cap).ownBlock=some g->g≠kb):=⟨Q,fun g hg e=>by
  have h1:=y.pr 6 g (by omega) (by omega) (by rw[J,<-hn];exact hg)
  rw[e,y.p0.2] at h1;exact absurd h1.2 (by omega)⟩
 have q0:=aA l 0 (u:=.int .i64 s.code) rfl
 have q1:=aA l 1 (u:=.int .i64 s.dst) rfl
 have q2:=aA l 2 (u:=.int .i64 s.a) rfl
 have q3:=aA l 3 (u:=.int .i64 s.b) rfl
 have q4:=aA l 4 (u:=.int .i64 s.c) rfl
 have HL:Hid _:=hc
 clear y Z J hn Q r l hc I
 go_enter Tryz.func119,Tryz.ntmps119
 go_upto_region 1 with fail
 rw[<-hW,<-U]
 have ai:=U.symm
 clear hW U
 go_wp2_with fail
 obtain ⟨V,hV⟩:∃V,V=W.alloc (.cells #[.int .i64 s.code,.int .i64 s.dst,.int .i64 s.a,.int .i64 s.b,.int .i64 s.c] 38):=⟨_,rfl⟩
 go_region_law (first
  | (refine step_append_lies _ (by rfl) (.tmp 17) (.tmp 19) 24 (by rfl) 0 38 i0 _ 5 40 Tryz.underlying24 hi ac ad ae rfl (by decide) (Value.slice ao n cap) n _ (by rfl) (hr.alloc _) ⟨W.heap.size,0,none⟩ 1 1 (rS s) (by rfl) (by rfl) (eN _ (rS s) _) (by intro u hu;simp[rS] at hu;rcases hu with rfl|rfl|rfl|rfl|rfl<;>rfl) (by omega) (by unfold maxLen;omega) (by omega) (by simp) (W.heap.size+1) (by simp) ?_
     intro g5 ag w5 O D ab af
     have X:w5.heap[kb]?=some (.cells (c.cells k.net.places).toArray 135 (0,0)):=by { rw[D.block kb (by simp;omega) (fun e=>(HK.out.2 kb e.symm) rfl)];exact eB HK.out.1 }
     have d1:=aA X 6 (u:=c.v 6) rfl
     have f1:=aG X 6))
 all_goals
  go_wp2_with fail
  go_end0
  obtain ⟨y,Z,J,r,I⟩:=HC.out
  rw[<-HN.out] at J
  obtain ⟨g1,g2⟩:=y.grow (i:=6) (by omega) (by omega) (n5:=(added k s).net) (w0:=(W.alloc (.cells #[.int .i64 s.code,.int .i64 s.dst,.int .i64 s.a,.int .i64 s.b,.int .i64 s.c] 38)).drew) ((aC _ _).drew) (new:=rS s) (by show World.ownsRow _ _ _ _ _ (k.net.code.length+1) _;rw[<-HN.out];exact O) (by rw[J];exact D) (by rw[J];rcases ab with h|h;exact .inl h.symm;exact .inr (by rw[h];simp[Value.ownBlock])) rfl (fun j hj=>by unfold rB pP;split<;>first|exact absurd rfl hj|exact ⟨rfl,rfl⟩) ⟨by simp[rB,added],by simp[pP,added]⟩
  have Y:bM P w _:=(bM.of_below r).trans g2 (fun b hb U=>U)
  exact ⟨rfl,⟨⟨_,g1.mono fun b hb=>hb.elim .inl fun h=>.inr ⟨by have:=r.size;omega,h.2⟩⟩,Z.add hE aa HL.out,iI I Y.size⟩,Y⟩
theorem E9 {c a b d:Int}(h:4000≤k.net.code.length):Em.made c a b d k=none:=by
 unfold Em.made
 rw[bind_some (Af k 0)]
 exact aH (if_pos h)
theorem E8 {c a b d:Int}(h:k.net.code.length<4000):Em.made c a b d k=some (k.net.places,added (aU k 0) ⟨c,k.net.places,a,b,d⟩):=by
 unfold Em.made
 rw[bind_some (Af k 0)]
 exact bind_some (if_neg (show ¬4000≤(aU k 0).net.code.length from by show ¬4000≤k.net.code.length;omega))
theorem gU (c a b d:Int) (h:eK E ns P w kb k) (hE:E<1000000) :
    Calls Tryz.prog 205 #[.pointer (some ⟨kb,0,none⟩),.agg #[.int .i64 c,.int .i64 0,.int .i64 a,.int .i64 b,.int .i64 d]] w (fJ E ns P kb w k (Em.made c a b d k) (Value.int .i64)):=by
 obtain ⟨W,hW⟩:∃W,W=w.alloc (.cells #[.int .i64 c,.int .i64 0,.int .i64 a,.int .i64 b,.int .i64 d] 38):=⟨_,rfl⟩
 have Q:Below w.heap.size w W:=by rw[hW];exact aC _ _
 have U:W.heap[w.heap.size]?=some (.cells #[.int .i64 c,.int .i64 0,.int .i64 a,.int .i64 b,.int .i64 d] 38 (0,0)):=by rw[hW];exact aX w _
 have n:=uX (x:=0) (h.below Q) hE jF.zero
 obtain ⟨q,J⟩:∃q,q=w.heap.size:=⟨_,rfl⟩
 rw[<-J] at U
 have D:Hid (_/\_/\_/\_/\¬P q):=⟨Q,h.2.2,J.symm,U,fun hp=>by have:=h.2.2 q hp;omega⟩
 obtain ⟨p,hp⟩:∃p,p=k.net.places:=⟨_,rfl⟩
 have HP:Hid _:=hp
 rw[<-hp] at n
 clear h Q U hp
 by_cases hcl:4000≤k.net.code.length
 all_goals
  go_enter Tryz.func205,Tryz.ntmps205
  go_upto_region 1 with fail
  rw[<-hW,<-J]
  clear hW J
  go_upto_region 2 with (go_at_call 114;refine n.mono ?_;rintro e w1 ⟨rfl,Z⟩;have I:=Z.out.2.heap D.out.2.2.2.1 D.out.2.2.2.2;have d1:=aA I 1 (u:=.int .i64 0) rfl;have f1:=aG I 1)
  obtain ⟨X,O⟩:∃X,X=w1.setCell ⟨q,1,none⟩ (.int .i64 p):=⟨_,rfl⟩
  have j:X.heap[q]?=some (.cells #[.int .i64 c,.int .i64 p,.int .i64 a,.int .i64 b,.int .i64 d] 38 (0,0)):=by rw[O];exact cH (l:=[.int .i64 c,.int .i64 0,.int .i64 a,.int .i64 b,.int .i64 d]) I 1 _
  have Y:¬Up P W w1 q:=fun hu=>hu.elim D.out.2.2.2.2 fun h=>by have:=aB D.out.2.2.2.1;omega
  have s:bB (Up P W w1) (Up P W w1) w1 X:=fun b hb hl=>⟨hb,by rw[O];exact Below.heap_setCell _ _ _ _ (fun e=>Y (by have e:b=q:=e;rw[<-e];exact hb))⟩
  have y:eK (E+1) ns (Up P W w1) X kb (aU k 0):=⟨Z.out.1.1.imp fun _ h=>h.carry s,Z.out.1.2.1,fun b hb=>by rw[O];simp[World.setCell];exact Z.out.1.2.2 b hb⟩
  rw[<-O]
  have HX:Hid (bM P w X/\_/\_/\X.heap.size=w1.heap.size/\_):=⟨by rw[O];exact ((bM.of_below D.out.1).trans Z.out.2 fun _ _ h=>h).setCell (.inr (by rw[D.out.2.2.1];exact aF4 _)) _,j,Y,by rw[O];simp[World.setCell],Z.out.2.size⟩
  have x0:=aA j 0 (u:=.int .i64 c) rfl
  have x1:=aA j 1 (u:=.int .i64 p) rfl
  have x2:=aA j 2 (u:=.int .i64 a) rfl
  have x3:=aA j 3 (u:=.int .i64 b) rfl
  have x4:=aA j 4 (u:=.int .i64 d) rfl
  clear O I d1 f1 j Y s Z n
 ·have r:=X8 (E:=E+1) ⟨c,p,a,b,d⟩ y hcl
  clear y
  go_wp2_with (go_at_call 119;refine r.mono ?_;rintro e w2 ⟨rfl,h2⟩)
  exact ⟨rfl,.inl ⟨rfl,E9 hcl,HX.out.1.trans h2.out fun b hb J=>J.elim id fun h=>absurd h.1 (by have:=D.out.1.size;omega)⟩⟩
 ·have r:=Gz (E:=E) (E':=E+1) ⟨c,p,a,b,d⟩ y (aF4 _) (by omega) (by have:=hcl;show k.net.code.length<4000;omega)
  clear y
  go_wp2_with (go_at_call 119;refine r.mono ?_;rintro e w2 ⟨rfl,h2⟩;have ab:=h2.out.2.heap HX.out.2.1 HX.out.2.2.1;have y1:=aA ab 1 (u:=.int .i64 p) rfl)
  go_ret
  have hs:=D.out.1.size
  have ac:=h2.out.2.size
  have aa:bM P w w2:=HX.out.1.trans h2.out.2 fun b hb J=>J.elim id fun h=>absurd h.1 (by omega)
  refine .inr ⟨p,added (aU k 0) ⟨c,p,a,b,d⟩,rfl,?_,h2.out.1.mono (fun b hb=>?_) (iI D.out.2.1 aa.size),aa,?_⟩
  ·rw[HP.out];exact E8 (by have:=hcl;omega)
  ·rcases hb with (hb|hb)|hb
   ·exact .inl hb
   ·exact .inr ⟨by omega,by have:=HX.out.2.2.2.1;omega⟩
   ·exact .inr ⟨by have:=HX.out.2.2.2;omega,hb.2⟩
  ·show k.net.places≤k.net.places+1
   omega
end
end Ew
end
end Go.Proofs.YthieaobjdpfcoaaGreatDoor
