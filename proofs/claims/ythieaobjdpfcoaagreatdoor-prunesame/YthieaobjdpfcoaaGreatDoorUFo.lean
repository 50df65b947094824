import Derived.Test.YthieaobjdpfcoaaGreatDoorUYa
import Derived.Test.YthieaobjdpfcoaaGreatDoorUNt5
import Derived.RangeFuncBox
import Derived.RangeFuncNested
import Derived.RangeFuncBound
import Derived.RangeFuncCalls
import Derived.RangeFuncLeaves
import Derived.Shelf.Abstract
import Derived.Shelf.RegionOpen
import Derived.WalkKit
import Derived.OwnWalkIn
import Derived.TacticsInMore
import Derived.LoopNIn
import Derived.LoopIn
import Derived.Test.YthieaobjdpfcoaaGreatDoorUNt3
set_option maxRecDepth 100000
set_option maxHeartbeats 4000000
namespace Go.Proofs.YthieaobjdpfcoaaGreatDoor
section
open Go.RowKit Go.Shelf Px
attribute [local go_sem] Oper.semAt_some
namespace Yw
open Nx (Nt Sp bH eD)
abbrev XS (cs:List Sp):={ x:Nat×Sp // x.1<cs.length/\x.2=cs.getD x.1 eD }
def Je (cs:List Sp) (j:Nat) (h:j<cs.length):XS cs:=⟨(j,cs.getD j eD),h,rfl⟩
abbrev xsV {cs:List Sp}(x:XS cs):Array Value:=#[.int .i64 (x.1.1:Int),.agg #[.int .i64 x.1.2.code,.int .i64 x.1.2.dst,.int .i64 x.1.2.a,.int .i64 x.1.2.b,.int .i64 x.1.2.c]]
def eU (cs:List Sp):Nat->List (XS cs)
 | 0=>[]
 | k+1=>if h:cs.length-1-k<cs.length then eU cs k++[Je cs (cs.length-1-k) h] else eU cs k
theorem I1 (cs:List Sp):∀k,k≤cs.length->(eU cs k).length=k
 | 0,_=>rfl
 | k+1,h=>by rw[eU,dif_pos (by omega),aH7,I1 cs k (by omega)];rfl
def Ve (D:Nat->Prop) (W W':World):Prop:=∀b,D b->W'.heap[b]?=W.heap[b]?
theorem Ih {D:Nat->Prop}{A B C:World}(h:Ve D A B) (k:Ve D B C):Ve D A C:=fun b hb=>(k b hb).trans (h b hb)
theorem Zo {D:Nat->Prop}{w:World}(hD:∀b,D b->b<w.heap.size) (W:World) (l:Nat) (o o':Obj) (hl:w.heap.size≤l) (_:W.heap[l]?=some o) (_:o.isCells=false) (_:o.isWalk=false):Ve D W (W.putObj l o'):=
 fun b hb=>World.putObj_heap_other (by have:=hD b hb;omega)
theorem Yr (F:Fence) (n:Nat) (hf:F.fn 85) (Z:F.round=none) (hn:1≤n) (l U b h cap:Nat) (ad:Option Addr) (cs:List Sp) (D:Nat->Prop) (hD:D U/\(0<cs.length->D b)) (hlen:cs.length≤100000) (J Jx:List (XS cs)->World->Prop)
    (hY:∀pre x W,J pre W->pre.length<cs.length->YieldAt F (n-1) Tryz.prog l (xsV x) W fun e W'=>
     (e=.returned (.bool true)/\J (pre++[x]) W'/\Ve D W W')\/(e=.returned (.bool false)/\Jx (pre++[x]) W'))
    (W:World) (O:W.cell? ⟨U,0,none⟩=some (.slice ad cs.length cap)) (ha:0<cs.length->ad=some ⟨b,h,none⟩) (hc:∀k,k<cs.length->W.cell? ⟨b,h+k*5,none⟩=some (.int .i64 (cs.getD k eD).code)/\W.cell? ⟨b,h+k*5+1,none⟩=some (.int .i64 (cs.getD k eD).dst)/\
     W.cell? ⟨b,h+k*5+2,none⟩=some (.int .i64 (cs.getD k eD).a)/\W.cell? ⟨b,h+k*5+3,none⟩=some (.int .i64 (cs.getD k eD).b)/\W.cell? ⟨b,h+k*5+4,none⟩=some (.int .i64 (cs.getD k eD).c)) (h0:J [] W) :
    CallsIn F n Tryz.prog 85 #[.func (.yield l) #[] #[],.pointer (some ⟨U,0,none⟩)] W fun e W'=>(∃v,e=.returned v)/\
     ((∃ys,ys=eU cs cs.length/\J ys W')\/(∃pre,True/\Jx pre W')):=by
 obtain ⟨len,hl⟩:∃len,len=cs.length:=⟨_,rfl⟩
 have Y:Hid (len=cs.length):=hl
 rw[<-hl] at O hlen
 clear hl
 refine callsIn_of_wp Tryz.func85 rfl hf ?_ Z
 simp only[Tryz.ntmps85,List.size_toArray,aO4,aW4,Nat.reduceAdd,Nat.reduceSub,Array.replicate_succ,Array.replicate_zero,List.push_toArray,List.append_toArray,List.nil_append,List.cons_append]
 have ae:IntKind.i64.wrap ((len:Int)-1)=(len:Int)-1:=by rw[IntKind.wrap_i64];omega
 gi_wp2
 gi_loopw [3] (fun i wr=>∃(j:Nat) (z:Int),j≤len/\Hid (z=(j:Int)-1)/\i=.int .i64 z/\J (eU cs (len-j)) wr/\Hid (Ve D W wr)) (fun i _=>(intOf i+1).toNat)
 case atStart=>exact ⟨len,(len:Int)-1,aF4 _,rfl,rfl,by rw[Nat.sub_self];exact h0,fun _ _=>rfl⟩
 case round=>
  obtain ⟨j,z,hj,HZ,rfl,y,u⟩:=hrel
  by_cases hj0:j=0
  ·subst hj0
   obtain rfl:z=-1:=by have:=HZ.out;omega
   gi_wp2
   go_end0
   refine ⟨⟨_,rfl⟩,.inl ⟨_,rfl,?_⟩⟩
   rw[Nat.sub_zero,Y.out] at y
   exact y
  ·obtain ⟨m,rfl⟩:∃m,j=m+1:=⟨j-1,by omega⟩
   obtain rfl:z=(m:Int):=by have:=HZ.out;omega
   have Q:m<cs.length:=by rw[<-Y.out];omega
   have I:eU cs (len-m)=eU cs (len-(m+1))++[Je cs m Q]:=by
    obtain ⟨k,hk⟩:∃k,k=len-(m+1):=⟨_,rfl⟩
    have e1:len-m=k+1:=by omega
    have e2:cs.length-1-k=m:=by rw[<-Y.out];omega
    rw[e1,<-hk,eU]
    simp only[e2]
    rw[dif_pos Q]
   obtain ⟨fn,ac,assign,body,hy,hR⟩:=hY _ (Je cs m Q) wr y (by have:=Y.out;rw[I1 cs _ (by omega)];omega)
   dsimp only[xsV,Je] at hy
   have ag:wr.cell? ⟨U,0,none⟩=some (.slice ad len cap):=by rw[aX1 (u.out U hD.1)];exact O
   have r:=u.out b (hD.2 (by omega))
   obtain ⟨p0,p1,p2,p3,p4⟩:=hc m Q
   rw[<-aX1 r] at p0
   rw[<-aX1 r] at p1
   rw[<-aX1 r] at p2
   rw[<-aX1 r] at p3
   rw[<-aX1 r] at p4
   obtain ⟨s,hs⟩:∃s,s=cs.getD m eD:=⟨_,rfl⟩
   rw[<-hs] at p0 p1 p2 p3 p4 hy
   have ah:=Nx.Sf ad b h len cap m (by omega) (fun _=>ha (by omega))
   have af:IntKind.i64.wrap ((m:Int)-1)=(m:Int)-1:=by rw[IntKind.wrap_i64];omega
   have HH:Hid (J (eU cs (len-(m+1))++[Je cs m Q])=J (eU cs (len-m))):=by rw[I];rfl
   clear I hs r
   gi_wp2
   refine hR.mono ?_
   rintro e W3 (⟨rfl,ab,aa⟩|⟨rfl,X⟩)
   ·gi_wp2
    go_roundw
    case rel=>exact ⟨m,(m:Int)-1,by omega,rfl,rfl,by rw[<-HH.out];exact ab,Ih u.out aa⟩
    case measure=>simp[intOf]
   ·gi_wp2
    refine aX5 (results_none rfl _ _ _) rfl ?_
    exact ⟨⟨_,rfl⟩,.inr ⟨_,trivial,X⟩⟩
theorem X4 (ad:Option Addr) (len cap:Nat) (w:World):Calls Tryz.prog 52 #[.slice ad len cap] w fun e w'=>e=.returned (.func (.func 85) #[] #[.pointer (some ⟨w.heap.size,0,none⟩)])/\w'=w.alloc (.cells #[.slice ad len cap] 24):=by
 go_enter Tryz.func52,Tryz.ntmps52
 go_wp2
 go_ret
 exact ⟨rfl,rfl⟩
theorem Gw (n:Nat) (hn:1≤n) {Bs b off cap:Nat}{ad:Option Addr}{cs:List Sp}{D:Nat->Prop}(hD:D Bs/\(0<cs.length->D b)) (hlen:cs.length≤100000) {w:World}(hBs:w.cell? ⟨Bs,0,none⟩=some (.slice ad cs.length cap)) (ha:0<cs.length->ad=some ⟨b,off,none⟩) (hc:∀k,k<cs.length->w.cell? ⟨b,off+k*5,none⟩=some (.int .i64 (cs.getD k eD).code)/\w.cell? ⟨b,off+k*5+1,none⟩=some (.int .i64 (cs.getD k eD).dst)/\
      w.cell? ⟨b,off+k*5+2,none⟩=some (.int .i64 (cs.getD k eD).a)/\w.cell? ⟨b,off+k*5+3,none⟩=some (.int .i64 (cs.getD k eD).b)/\w.cell? ⟨b,off+k*5+4,none⟩=some (.int .i64 (cs.getD k eD).c)) :
    SeqStopsK Fence.wide n Tryz.prog 85 #[.pointer (some ⟨Bs,0,none⟩)] (fun x:XS cs=>xsV x) (Ve D) (fun ys=>ys=eU cs cs.length) (fun _=>True) cs.length w:=fun l J Jx W hW _ _ hY h0=>by
 have kp:∀(a:Addr) (v:Value),w.cell? a=some v->W.cell? a=some v:=fun a v h=>(hW.cell (p:=a) (aW9 w a h)).trans h
 exact Yr Fence.wide n trivial rfl hn l Bs b off cap ad cs D hD hlen J Jx hY W (kp _ _ hBs) ha (fun k hk=>by obtain ⟨h0,h1,h2,h3,h4⟩:=hc k hk;exact ⟨kp _ _ h0,kp _ _ h1,kp _ _ h2,kp _ _ h3,kp _ _ h4⟩) h0
theorem wO {w:World}{qb r n:Nat}{bs:List Bool}{p:Int}(hb:w.cell? ⟨qb,0,none⟩=some (sK r n)) (h:bL w r bs) (y:bs.length=n) (l:0≤p/\p<n) :
    Calls Tryz.prog 51 #[.int .i64 p,.pointer (some ⟨qb,0,none⟩)] w fun e w'=>e=.returned (.bool (bs.getD p.toNat false))/\w'=w:=by
 have c:=ixB r n p l.1 l.2
 have u:=h.cell (k:=p.toNat) (by omega)
 obtain ⟨j,s⟩:∃j,j=p.toNat:=⟨_,rfl⟩
 obtain ⟨x,hx⟩:∃x,x=bs.getD p.toNat false:=⟨_,rfl⟩
 rw[<-hx] at u ⊢
 rw[<-s] at c u
 clear h y l s hx
 go_enter Tryz.func51,Tryz.ntmps51
 go_wp2
 go_ret
 exact ⟨rfl,rfl⟩
end Yw
end
section
namespace Nx
structure Fd where
 kn:Int->Option Int
 nums:List Int
 code:List Sp
theorem Yj {P:Int}{N:Nat}{s:Sp}(h:eA P N s=0):1≤s.code/\s.code≤17/\s.code≠3:=by
 unfold eA at h
 split at h
 ·omega
 ·omega
theorem sD {P:Int}{N:Nat}{s:Sp}(h:eA P N s=0):cR P s.dst=true/\(asks s).all (cR P)=true:=by
 unfold eA at h
 split at h
 ·omega
 ·split at h
  ·omega
  ·rename_i h2;exact Decidable.of_not_not h2
end Nx
end
end Go.Proofs.YthieaobjdpfcoaaGreatDoor
