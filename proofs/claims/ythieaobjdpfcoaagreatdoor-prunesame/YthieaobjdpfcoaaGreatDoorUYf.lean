import Derived.Test.YthieaobjdpfcoaaGreatDoorUEb
import Derived.Test.YthieaobjdpfcoaaGreatDoorUQb
set_option maxRecDepth 100000
set_option maxHeartbeats 8000000
namespace Go.Proofs.YthieaobjdpfcoaaGreatDoor
section
open Go.RowKit Go.Shelf Px Go.Sort
namespace Yw
open Nx (Nt Sp bH eD eJ kK)
open Ew (bM)
theorem bg (U:World) (m n:Nat) (C:List Value):Below U.heap.size U ((((U.alloc (.cells (Array.replicate m (.bool false)) 4)).alloc (.cells (Array.replicate n (.bool false)) 4)).alloc (.cells C.toArray 73)).drew)/\
    bL ((((U.alloc (.cells (Array.replicate m (.bool false)) 4)).alloc (.cells (Array.replicate n (.bool false)) 4)).alloc (.cells C.toArray 73)).drew) U.heap.size (List.replicate m false)/\
    bL ((((U.alloc (.cells (Array.replicate m (.bool false)) 4)).alloc (.cells (Array.replicate n (.bool false)) 4)).alloc (.cells C.toArray 73)).drew) (U.heap.size+1) (List.replicate n false)/\
    ((((U.alloc (.cells (Array.replicate m (.bool false)) 4)).alloc (.cells (Array.replicate n (.bool false)) 4)).alloc (.cells C.toArray 73)).drew).heap[U.heap.size+1+1]?=some (.cells C.toArray 73 (0,0)):=by
 obtain ⟨c,j⟩:∃X,X=U.alloc (.cells (Array.replicate m (.bool false)) 4):=⟨_,rfl⟩
 obtain ⟨h,k⟩:∃X,X=c.alloc (.cells (Array.replicate n (.bool false)) 4):=⟨_,rfl⟩
 obtain ⟨u,l⟩:∃X,X=h.alloc (.cells C.toArray 73):=⟨_,rfl⟩
 rw[<-j,<-k,<-l]
 have s:c.heap.size=U.heap.size+1:=by rw[j];simp
 have O:h.heap.size=U.heap.size+1+1:=by rw[k];simp[s]
 have I:Below U.heap.size U c:=by rw[j];exact aC _ _
 have r:Below c.heap.size c h:=by rw[k];exact aC _ _
 have b3:Below h.heap.size h u:=by rw[l];exact aC _ _
 have y:bL c U.heap.size (List.replicate m false):=by
  have:=aX U (.cells (Array.replicate m (.bool false)) 4)
  unfold bL
  rw[j,this]
  simp
 have D:bL h (U.heap.size+1) (List.replicate n false):=by
  have:=aX c (.cells (Array.replicate n (.bool false)) 4)
  unfold bL
  rw[<-s,k,this]
  simp
 have J:u.heap[U.heap.size+1+1]?=some (.cells C.toArray 73 (0,0)):=by rw[<-O,l];exact aX _ _
 have ball:=aQ I (aQ r b3)
 exact ⟨⟨ball.os,ball.tape,ball.output,ball.size,ball.block⟩,aD b3 (aD r y),aD b3 D,J⟩
structure BG (U W:World) (pb bw bm k6 P:Nat) (may:List Bool) (v6:Value):Prop where
 bel:Below U.heap.size U W
 w:bL W bw (List.replicate k6 false)
 m:bL W bm may
 ml:may.length=P
 p:W.heap[pb]?=some (.cells #[v6,sK bw k6,sK bm P,.slice none 0 0] 73 (0,0))
 lo:U.heap.size≤pb/\U.heap.size≤bw/\U.heap.size≤bm
 ne:pb≠bw/\pb≠bm/\bw≠bm
theorem BG.mark {U W W':World}{pb bw bm k6 P:Nat}{may may':List Bool}{v6:Value}(h:BG U W pb bw bm k6 P may v6) (hm:bL W' bm may') (hl:may'.length=may.length) (hf:bM (fun c=>c=bm) W W'):BG U W' pb bw bm k6 P may' v6:=
 ⟨h.bel.trans (hf.below h.bel.size fun b hb=>by rw[hb];exact h.lo.2.2),hf.heap h.w h.ne.2.2,hm,hl.trans h.ml,hf.heap h.p h.ne.2.1,h.lo,h.ne⟩
theorem Nn {w:World}{n:Nt}{d1 Y d3 d4 d5 D:Option Addr}{k1 c1 Z c2 k3 c3 k4 c4 k5 c5 l y B P:Nat}(hB:B≤w.heap.size) (hN:eJ B w n (.slice d1 k1 c1) (.slice Y Z c2) (.slice d3 k3 c3) (.slice d4 k4 c4) (.slice d5 k5 c5) (.slice D l y)) (hP:n.places=P) (ae:P≤4000) (af:n.code.length≤4000) (ag:n.keeps.length≤4000/\n.ins.length≤4000) (ad:∀p∈n.keeps,0≤p/\p<P) (ac:∀p∈n.ins,0≤p/\p<P) :
    Calls Tryz.prog 28 #[.agg #[.int .i64 n.places,.slice d1 k1 c1,.slice Y Z c2,.slice d3 k3 c3,.slice d4 k4 c4,.slice d5 k5 c5,.slice D l y]] w fun e w'=>∃pb c,e=.returned (.pointer (some ⟨pb,0,none⟩))/\Hid (PM w' pb (· < B) n.code (List.replicate n.code.length false) (cM (cM (List.replicate P false) n.keeps true) n.ins false) [] c/\w.heap.size≤pb/\w.heap.size≤c.bw/\w.heap.size≤c.bm/\c.vK=.slice none 0 0/\Below w.heap.size w w'):=by
 rw[hP]
 obtain ⟨q,hq⟩:∃q,q=w.heap.size:=⟨_,rfl⟩
 obtain ⟨U,hU⟩:∃U,U=w.alloc (.cells #[.int .i64 (P:Int),.slice d1 k1 c1,.slice Y Z c2,.slice d3 k3 c3,.slice d4 k4 c4,.slice d5 k5 c5,.slice D l y] 26):=⟨_,rfl⟩
 have bU:Below w.heap.size w U:=by rw[hU];exact aC _ _
 have kU:U.heap[q]?=some (.cells #[.int .i64 (P:Int),.slice d1 k1 c1,.slice Y Z c2,.slice d3 k3 c3,.slice d4 k4 c4,.slice d5 k5 c5,.slice D l y] 26 (0,0)):=by rw[hU,hq];exact aX _ _
 have sU:U.heap.size=q+1:=by rw[hU,hq];simp
 have ab:l=n.code.length:=(Ew.pJ hN.c).1
 have r:Hid (Below w.heap.size w U/\U.heap[q]?=some (.cells #[.int .i64 (P:Int),.slice d1 k1 c1,.slice Y Z c2,.slice d3 k3 c3,.slice d4 k4 c4,.slice d5 k5 c5,.slice D l y] 26 (0,0))/\U.heap.size=q+1/\q=w.heap.size/\B≤w.heap.size/\eJ B w n (.slice d1 k1 c1) (.slice Y Z c2) (.slice d3 k3 c3) (.slice d4 k4 c4) (.slice d5 k5 c5) (.slice D l y)/\l=n.code.length):=⟨bU,kU,sU,hq,hB,hN,ab⟩
 obtain ⟨a0,a1,a2,a3,a4,a5,a6⟩:=Nx.lC kU
 have m1:=fun W=>Rf W l (by omega)
 have m2:=fun W=>Rf W P (by omega)
 have ah:q<U.heap.size:=by omega
 clear bU kU sU ab hB hN
 go_enter Tryz.func28,Tryz.ntmps28
 go_upto_region 1 with fail
 rw[<-hU,<-hq]
 clear hU hq
 have g1:=bg U l P [.slice D l y,sK U.heap.size l,sK (U.heap.size+1) P,.slice none 0 0]
 have g2:=bg U P l [.slice D l y,sK (U.heap.size+1) l,sK U.heap.size P,.slice none 0 0]
 have G1:Hid (BG U _ (U.heap.size+1+1) U.heap.size (U.heap.size+1) l P (List.replicate P false) (.slice D l y)):=⟨g1.1,g1.2.1,g1.2.2.1,by simp,g1.2.2.2,⟨by omega,by omega,by omega⟩,⟨by omega,by omega,by omega⟩⟩
 have G2:Hid (BG U _ (U.heap.size+1+1) (U.heap.size+1) U.heap.size l P (List.replicate P false) (.slice D l y)):=⟨g2.1,g2.2.2.1,g2.2.1,by simp,g2.2.2.2,⟨by omega,by omega,by omega⟩,⟨by omega,by omega,by omega⟩⟩
 clear g1 g2
 go_cut [3] (fun s wx=>∃pb,s=.pointer (some ⟨pb,0,none⟩)/\Hid (∃bw bm,BG U wx pb bw bm l P (List.replicate P false) (.slice D l y)))
 case first=>
  go_region
  ·go_wp2_with fail
   go_meet
   case rel=>exact ⟨_,rfl,_,_,G1.out⟩
  ·go_wp2_with fail
   go_meet
   case rel=>exact ⟨_,rfl,_,_,G2.out⟩
 case rest=>
  obtain ⟨pb,rfl,hc⟩:=hcut
  obtain ⟨bw,bm,j⟩:=hc.out
  obtain ⟨a0,a1,a2,a3,a4,a5,a6⟩:=Nx.lC (aD j.bel r.out.2.1)
  have X:=aA j.p 2 (u:=sK bm P) rfl
  have J:bH (· < B) wc.drew (.slice d4 k4 c4) n.keeps:=(r.out.2.2.2.2.2.1.k).carry fun b hb hl=>⟨hb,(aQ r.out.1 j.bel).block b (aH3 hb r.out.2.2.2.2.1)⟩
  have O:=pU (w:=wc.drew) (b:=bm) (n:=P) true j.m j.ml J (fun h=>by have:=j.lo.2.2;have:=r.out.2.2.1;have:=r.out.2.2.2.1;have:=r.out.2.2.2.2.1;omega) ad (by omega)
  have HB:Hid (BG U wc pb bw bm l P (List.replicate P false) (.slice D l y)):=j
  have l1:=aB j.p
  have l2:=cC a0
  clear J j hc
  go_upto_region 2 with fail
  go_cut [] (fun wx=>Hid (BG U wx pb bw bm l P (cM (List.replicate P false) n.keeps true) (.slice D l y)))
  case first=>
   go_region_with (go_at_call 50;refine O.mono ?_;rintro e wM ⟨rfl,I⟩)
   all_goals
    go_wp2_with fail
    go_meet
    case rel=>exact HB.out.mark I.out.1 (by simp[eX]) ⟨I.out.2.1.os,I.out.2.1.tape,I.out.2.1.output,I.out.2.1.size,I.out.2.1.block⟩
  case rest=>
   have j:=hcut.out
   clear O a0 a1 a2 a3 a4 a5 a6 X l1 l2
   obtain ⟨a0,a1,a2,a3,a4,a5,a6⟩:=Nx.lC (aD j.bel r.out.2.1)
   have X:=aA j.p 2 (u:=sK bm P) rfl
   have J:bH (· < B) wc.drew (.slice Y Z c2) n.ins:=(r.out.2.2.2.2.2.1.i).carry fun b hb hl=>⟨hb,(aQ r.out.1 j.bel).block b (aH3 hb r.out.2.2.2.2.1)⟩
   have O:=pU (w:=wc.drew) (b:=bm) (n:=P) false j.m j.ml J (fun h=>by have:=j.lo.2.2;have:=r.out.2.2.1;have:=r.out.2.2.2.1;have:=r.out.2.2.2.2.1;omega) ac (by omega)
   have HB:Hid (BG U wc pb bw bm l P (cM (List.replicate P false) n.keeps true) (.slice D l y)):=j
   have l1:=aB j.p
   have l2:=cC a0
   clear J j
   go_upto_region 3 with fail
   go_cut [] (fun wx=>Hid (BG U wx pb bw bm l P (cM (cM (List.replicate P false) n.keeps true) n.ins false) (.slice D l y)))
   case first=>
    go_region_with (go_at_call 50;refine O.mono ?_;rintro e wM ⟨rfl,I⟩)
    all_goals
     go_wp2_with fail
     go_meet
     case rel=>exact HB.out.mark I.out.1 (by simp[eX]) ⟨I.out.2.1.os,I.out.2.1.tape,I.out.2.1.output,I.out.2.1.size,I.out.2.1.block⟩
   case rest=>
    have j:=hcut.out
    clear O a0 a1 a2 a3 a4 a5 a6 X l1 l2
    go_wp2_with fail
    go_ret
    have hq:=r.out.2.2.2.1
    have hb:=r.out.2.2.2.2.1
    have hs:=r.out.2.2.1
    have lo:=j.lo
    have Q:=aQ r.out.1 j.bel
    refine ⟨pb,⟨bw,bm,.slice D l y,.slice none 0 0⟩,rfl,⟨?_,?_,?_,by simp,j.m,aX2 _ _ _ _,j.ne,fun g hg=>by simp[Value.ownBlock] at hg,⟨by omega,by show ¬bw<B;omega,by show ¬bm<B;omega⟩⟩,by omega,by show w.heap.size≤bw;omega,by show w.heap.size≤bm;omega,rfl,Q⟩
    ·have:=j.p
     rw[r.out.2.2.2.2.2.2] at this
     rw[j.ml,this,r.out.2.2.2.2.2.2]
    ·exact r.out.2.2.2.2.2.1.c.carry fun b aa hl=>⟨aa,Q.block b (aH3 aa hb)⟩
    ·have:=j.w
     rw[r.out.2.2.2.2.2.2] at this
     exact this
theorem aE4:(Tryz.prog.info? 38).map (fun i=>(i.zero,i.size,i.bytes))=some (some (.agg #[.int .i64 0,.int .i64 0,.int .i64 0,.int .i64 0,.int .i64 0]),5,40):=by kernel_rfl
def zP (B:Nat) (w:World) (v:Value) (l:List Sp):Prop:=w.ownsRow B 38 5 v l.length (l.flatMap Ew.rS)
theorem aN1 (B:Nat) (w:World) (v:Value) (l:List Sp) (s:Sp) (q:Nat) (h:zP B w v l) (D:w.heap[q]?=some (.cells #[.int .i64 s.code,.int .i64 s.dst,.int .i64 s.a,.int .i64 s.b,.int .i64 s.c] 38 (0,0))) (hB:B≤w.heap.size) (Q:l.length≤100000) :
    ∃g cap w',(Builtin.append_ #[24,24] 24 #[v,.slice (some ⟨q,0,none⟩) 1 1]).run Tryz.prog w=.ok (.slice (some ⟨g,0,none⟩) (l.length+1) cap) w'/\
     zP B w' (.slice (some ⟨g,0,none⟩) (l.length+1) cap) (l++[s])/\w.grownBy w' v.ownBlock:=by
 obtain ⟨i0,I,j,n,k⟩:=aX6 aE4
 obtain ⟨g,cap,w',J,y,O,_,_⟩:=run_append_lies (P:=Tryz.prog) w 24 24 B 38 i0 _ 5 40 Tryz.underlying24 I j n k rfl (by decide) v l.length _ h ⟨q,0,none⟩ 1 1 (Ew.rS s) (by simp[Ew.rS])
  (World.news_of_block D) (fun u r=>by simp only[Ew.rS,aO6,List.not_mem_nil,or_false] at r;rcases r with rfl|rfl|rfl|rfl|rfl<;>rfl) (by decide) (by unfold maxLen;omega) (by omega) hB _ rfl
 refine ⟨g,cap,w',J,?_,O⟩
 have e:(l++[s]).flatMap Ew.rS=l.flatMap Ew.rS++Ew.rS s:=by simp
 unfold zP
 rw[aH7,e];exact y
theorem aG8 {S:Nat}{Y:World}{v:Value}{l:List Sp}{s:Sp}(h:zP S Y v l) (hB:S≤Y.heap.size) (hl:l.length≤100000) :
    ∃g cap w',(Builtin.append_ #[24,24] 24 #[v,.slice (some ⟨Y.heap.size,0,none⟩) 1 1]).run Tryz.prog (Y.alloc (.cells #[.int .i64 s.code,.int .i64 s.dst,.int .i64 s.a,.int .i64 s.b,.int .i64 s.c] 38))=.ok (.slice (some ⟨g,0,none⟩) (l.length+1) cap) w'/\
     zP S w' (.slice (some ⟨g,0,none⟩) (l.length+1) cap) (l++[s])/\(Y.alloc (.cells #[.int .i64 s.code,.int .i64 s.dst,.int .i64 s.a,.int .i64 s.b,.int .i64 s.c] 38)).grownBy w' v.ownBlock:=
 aN1 S _ v l s Y.heap.size (World.ownsRow.alloc h _) (aX _ _) (by rw[aX3];omega) hl
def dQ (cs:List Sp) (wd:List Bool):Nat->List Sp
 | 0=>[]
 | k+1=>if wd.getD k false=true then dQ cs wd k++[cs.getD k eD] else dQ cs wd k
theorem vB (cs:List Sp) (c:List Bool) (k:Nat):(dQ cs c k).length≤k:=by
 induction k with
 | zero=>simp[dQ]
 | succ k ih=>
  rw[dQ]
  split
  ·rw[aH7,aP4];omega
  ·omega
theorem Rt {A:Nat->Prop}{w:World}{pb:Nat}{cs:List Sp}{l ac:List Bool}{keeps:List Int}{c:Pv}(h:PM w pb A cs l ac keeps c) (ai:cs.length≤4000) :
    Calls Tryz.prog 32 #[.pointer (some ⟨pb,0,none⟩)] w fun e w'=>∃ad cap,e=.returned (.slice ad (dQ cs l cs.length).length cap)/\Hid (Nx.jA (fun b=>w.heap.size≤b/\b<w'.heap.size) w' (.slice ad (dQ cs l cs.length).length cap) (dQ cs l cs.length)/\Below w.heap.size w w'):=by
 obtain ⟨len,hl⟩:∃len,len=cs.length:=⟨_,rfl⟩
 obtain ⟨I,bC,oC,n,aa,af,ab⟩:=h.code
 have hk:=h.hk
 rw[aa,<-hl] at hk
 have X:Hid (len=cs.length/\PM w pb A cs l ac keeps c/\(0<cs.length->I=some ⟨bC,oC,none⟩)/\_):=⟨hl,h,fun hp=>(af hp).1,ab⟩
 have an:=aB hk
 have a0:=aA hk 0 (u:=.slice I len n) rfl
 have HK:Hid (w.cell? ⟨pb,1,none⟩=some (sK c.bw len)):=aA hk 1 rfl
 obtain ⟨S,hS⟩:∃S,S=w.heap.size:=⟨_,rfl⟩
 have HS:Hid (S=w.heap.size):=hS
 rw[<-hl] at ai ⊢
 clear hl af ab aa hk h hS
 go_enter Tryz.func32,Tryz.ntmps32
 go_wp2_with fail
 go_loopw [3,11] (fun v i wr=>∃k:Nat,k≤len/\i=.int .i64 k/\Hid (zP S wr v (dQ cs l k)/\Below S w wr)) (fun _ i _=>len-(intOf i).toNat)
 case atStart=>exact ⟨0,aJ5 _,rfl,aX2 _ _ _ _,Below.refl _ _⟩
 case round=>
  obtain ⟨k,hk,rfl,HR⟩:=hrel
  clear a0
  by_cases hlt:k<len
  ·have ao:=Nx.Sf I bC oC len n k hlt (fun h=>X.out.2.2.1 (by rw[<-X.out.1];exact h))
   have ag:k<cs.length:=by rw[<-X.out.1];exact hlt
   have j:=HS.out▸HR.out.2
   obtain ⟨x0,x1,x2,x3,x4⟩:=X.out.2.2.2 k ag
   obtain ⟨s,hs⟩:∃s,s=cs.getD k eD:=⟨_,rfl⟩
   rw[<-hs] at x0 x1 x2 x3 x4
   have y0:=aN j x0
   have y1:=aN j x1
   have y2:=aN j x2
   have y3:=aN j x3
   have y4:=aN j x4
   obtain ⟨Y,hY⟩:∃Y,Y=wr.alloc (.cells #[.int .i64 s.code,.int .i64 s.dst,.int .i64 s.a,.int .i64 s.b,.int .i64 s.c] 38):=⟨_,rfl⟩
   have Z:Below wr.heap.size wr Y:=by rw[hY];exact aC _ _
   have y:Y.heap[wr.heap.size]?=some (.cells #[.int .i64 s.code,.int .i64 s.dst,.int .i64 s.a,.int .i64 s.b,.int .i64 s.c] 38 (0,0)):=by rw[hY];exact aX _ _
   have z0:=aA y 0 (u:=.int .i64 s.code) rfl
   have z1:=aA y 1 (u:=.int .i64 s.dst) rfl
   have z2:=aA y 2 (u:=.int .i64 s.a) rfl
   have z3:=aA y 3 (u:=.int .i64 s.b) rfl
   have z4:=aA y 4 (u:=.int .i64 s.c) rfl
   have b1:=aN (aQ j Z) HK.out
   have al:=ixB c.bw len (k:Int) (by omega) (by omega)
   rw[aP2] at al
   have cw:=bL.cell (aD (aQ j Z) X.out.2.1.wt) (k:=k) (by rw[X.out.2.1.wl];exact ag)
   obtain ⟨wv,D⟩:∃wv,wv=l.getD k false:=⟨_,rfl⟩
   rw[<-D] at cw
   have hsz:S≤wr.heap.size:=by have:=HS.out;have:=HR.out.2.size;omega
   have ap:=vB cs l k
   have r:Hid (Below wr.heap.size wr Y/\S≤wr.heap.size/\(wv=l.getD k false)/\s=cs.getD k eD/\zP S Y u3 (dQ cs l k)/\Below S w Y):=⟨Z,hsz,D,hs,by rw[hY];exact HR.out.1.alloc _,HR.out.2.trans (Z.mono hsz)⟩
   obtain ⟨b,hb⟩:∃b,b=wr.heap.size:=⟨_,rfl⟩
   rw[<-hb] at z0 z1 z2 z3 z4
   have O:=y
   rw[<-hb] at O
   have ar:=aB O
   have ah:=aG8 (S:=S) (s:=s) r.out.2.2.2.2.1 (aH5 hsz Z.size) (by omega)
   clear hs D y O Z x0 x1 x2 x3 x4 j
   go_upto_region 5 with fail
   rw[<-hY,<-hb]
   clear hY hb y0 y1 y2 y3 y4
   cases wv with
   | false=>
    clear ah
    go_wp2_with fail
    go_roundw
    case rel=>
     refine ⟨k+1,by omega,by go_num,?_⟩
     rw[dQ,if_neg (by rw[<-r.out.2.2.1];simp)]
     exact r.out.2.2.2.2
    case measure=>simp[intOf];omega
   | true=>
    obtain ⟨g,cap,w6,ak,ae,U⟩:=ah
    go_wp2_with (at_builtin;refine vX rfl _ _ _ rfl _ _ _ rfl rfl ak ?_)
    go_roundw
    case rel=>
     refine ⟨k+1,by omega,by go_num,?_⟩
     rw[dQ,if_pos r.out.2.2.1.symm,<-r.out.2.2.2.1]
     refine ⟨ae,?_⟩
     have am:S≤Y.heap.size:=aH5 r.out.2.1 r.out.1.size
     have aj:Below S w (Y.alloc (.cells #[.int .i64 s.code,.int .i64 s.dst,.int .i64 s.a,.int .i64 s.b,.int .i64 s.c] 38)):=r.out.2.2.2.2.2.alloc am _
     refine aj.grown U (by rw[aX3];omega) (fun x e=>?_)
     obtain ⟨_,hh|⟨g',_,J,hv,Q,_⟩⟩:=id HR.out.1
     ·rw[hh.1] at e;cases e
     ·rw[hv] at e
      obtain rfl:g'=x:=by simpa [Value.ownBlock] using e
      exact Q
    case measure=>simp[intOf];omega
  ·obtain rfl:k=len:=by omega
   obtain ⟨ad,cap,e3⟩:=aP HR.out.1
   have HF:Hid (Nx.jA (fun b=>w.heap.size≤b/\b<wr.heap.size) wr (.slice ad (dQ cs l k).length cap) (dQ cs l k)/\Below w.heap.size w wr):=by
    refine ⟨?_,HS.out▸HR.out.2⟩
    rw[<-e3]
    have h0:wr.ownsRow 0 38 5 u3 (dQ cs l k).length ((dQ cs l k).flatMap Ew.rS):=⟨HR.out.1.1,HR.out.1.2.imp id fun ⟨g,cp,J,h1,h2,h3⟩=>⟨g,cp,J,h1,aJ5 _,h3⟩⟩
    refine Ew.s9 h0 fun x e=>?_
    obtain ⟨_,hh|⟨g',_,J,hv,Q,hh,_⟩⟩:=id HR.out.1
    ·rw[hh.1] at e;cases e
    ·rw[hv] at e
     obtain rfl:g'=x:=by simpa [Value.ownBlock] using e
     exact ⟨HS.out▸Q,aB hh⟩
   subst e3
   go_wp2_with fail
   go_ret
   exact ⟨ad,cap,rfl,HF.out⟩
end Yw
end
section
namespace Yw
open Nx (Nt Sp eD asks)
theorem mF (l:List Bool) (i j:Nat) (x:Bool):(l.set i x).getD j false=if i=j/\i<l.length then x else l.getD j false:=by
 simp only[iO,aP6]
 by_cases h:i=j
 ·subst h
  by_cases h2:i<l.length
  ·simp[h2]
  ·simp[h2]
 ·simp[h]
theorem E6 (bs:List Bool) (l r:List Int) (x:Bool):∀k,k≤l.length->lK bs (l++r) x k=lK bs l x k
 | 0,_=>rfl
 | k+1,h=>by
  rw[lK,lK,E6 bs l r x k (by omega)]
  congr 2
  rw[iO,iO,aO3 (by omega)]
theorem nZ (bs:List Bool) (l:List Int) (p:Int) (x:Bool):cM bs (l++[p]) x=(cM bs l x).set p.toNat x:=by
 unfold cM
 rw[aH7,aP4,lK,E6 _ _ _ _ _ (aF4 _)]
 congr 2
 rw[iO,aP1 (aF4 _)]
 simp
theorem yQ (bs:List Bool) (x:Bool) (i:Nat) (hi:i<bs.length):∀(m:Nat) (ps:List Int),ps.length=m->(cM bs ps x).getD i false=if (∃p∈ps,p.toNat=i) then x else bs.getD i false
 | 0,ps,hm=>by
  obtain rfl:=aO2.1 hm
  simp[cM,lK]
 | m+1,ps,hm=>by
  have hne:ps≠[]:=fun e=>by rw[e] at hm;cases hm
  obtain ⟨l,p,rfl⟩:∃l p,ps=l++[p]:=⟨ps.dropLast,ps.getLast hne,(List.dropLast_concat_getLast hne).symm⟩
  rw[nZ,mF,eX,yQ bs x i hi m l (by simpa using hm)]
  by_cases h:p.toNat=i
  ·rw[if_pos ⟨h,by omega⟩,if_pos ⟨p,by simp,h⟩]
  ·rw[if_neg (fun e=>h e.1)]
   by_cases h2:∃p∈l,p.toNat=i
   ·obtain ⟨y,hy,hy2⟩:=id h2
    rw[if_pos h2,if_pos ⟨y,by simp[hy],hy2⟩]
   ·rw[if_neg h2,if_neg]
    rintro ⟨y,hy,hy2⟩
    rcases aJ6.1 hy with hy|hy
    ·exact h2 ⟨y,hy,hy2⟩
    ·rw[aI1] at hy
     exact h (hy▸hy2)
theorem mA (bs:List Bool) (ps:List Int) (x:Bool) (i:Nat) (hi:i<bs.length):(cM bs ps x).getD i false=if (∃p∈ps,p.toNat=i) then x else bs.getD i false:=yQ bs x i hi _ ps rfl
def sJ (bs:List Bool):Nat:=bs.count true
theorem Uf (bs:List Bool):sJ bs≤bs.length:=List.count_le_length
theorem Ar (aq may:List Bool):∀k,k≤may.length->(∀i,k≤i->(cM may (dX aq may k) false).getD i false=may.getD i false)/\sJ (cM may (dX aq may k) false)+(dX aq may k).length=sJ may
 | 0,_=>⟨fun i _=>by simp[dX,cM,lK],by simp[dX,cM,lK]⟩
 | k+1,h=>by
  obtain ⟨h1,h2⟩:=Ar aq may k (by omega)
  rw[dX]
  split
  ·rename_i hm
   have hl:k<(cM may (dX aq may k) false).length:=by rw[eX];omega
   refine ⟨fun i hi=>?_,?_⟩
   ·rw[nZ,aP2,mF,if_neg (by omega)]
    exact h1 i (by omega)
   ·rw[nZ,aP2]
    unfold sJ at h2 ⊢
    have hk:=h1 k (aF4 _)
    rw[hm.1,iO,aE5 hl,Option.getD_some] at hk
    have hpos:0<List.count true (cM may (dX aq may k) false):=List.count_pos_iff.2 (hk▸aW7 hl)
    rw[List.count_set hl,hk]
    simp
    omega
  ·exact ⟨fun i hi=>h1 i (by omega),h2⟩
structure PS where
 wd:List Bool
 may:List Bool
 keeps:List Int
 places:List Int
def iF (cs:List Sp) (s:PS):PS:=
 ⟨(kJ (cM (List.replicate s.may.length false) s.places true,s.wd) (eU cs cs.length)).2,
  cM s.may (dX (kJ (cM (List.replicate s.may.length false) s.places true,s.wd) (eU cs cs.length)).1 s.may s.may.length) false,
  s.keeps++dX (kJ (cM (List.replicate s.may.length false) s.places true,s.wd) (eU cs cs.length)).1 s.may s.may.length,
  dX (kJ (cM (List.replicate s.may.length false) s.places true,s.wd) (eU cs cs.length)).1 s.may s.may.length⟩
def aL (cs:List Sp) (s:PS):Nat->PS
 | 0=>s
 | j+1=>if (aL cs s j).places=[] then aL cs s j else iF cs (aL cs s j)
theorem wH (cs:List Sp) (s:PS) {j:Nat}(h:(aL cs s j).places=[]):∀i,aL cs s (j+i)=aL cs s j
 | 0=>rfl
 | i+1=>by rw[show j+(i+1)=(j+i)+1 by omega,aL,wH cs s h i,if_pos h]
structure tZ (P cl:Nat) (s:PS):Prop where
 m:s.may.length=P
 w:s.wd.length=cl
 r:∀p∈s.places,0≤p/\p<P
 l:s.places.length≤4000
 k:s.keeps.length+sJ s.may≤P
theorem nV {P:Nat}{cs:List Sp}{s:PS}(I:P≤4000) (h:tZ P cs.length s):tZ P cs.length (iF cs s)/\sJ (iF cs s).may+(iF cs s).places.length=sJ s.may:=by
 obtain ⟨a,r⟩:∃a,a=kJ (cM (List.replicate s.may.length false) s.places true,s.wd) (eU cs cs.length):=⟨_,rfl⟩
 have n:=(Ar a.1 s.may s.may.length (aF4 _)).2
 have y:=qO a.1 s.may s.may.length
 have c:=(sX (cM (List.replicate s.may.length false) s.places true,s.wd) (eU cs cs.length)).2
 unfold iF
 rw[<-r] at c ⊢
 have J:=h.m
 have u:=h.k
 refine ⟨⟨by rw[eX];exact h.m,by rw[c];exact h.w,fun p l=>?_,by show (dX _ _ _).length≤4000;omega,?_⟩,n⟩
 ·obtain ⟨j,D,rfl,_⟩:=(nD _ _ _ _).1 l
  exact ⟨by omega,by omega⟩
 ·show (s.keeps++dX a.1 s.may s.may.length).length+sJ (cM s.may (dX a.1 s.may s.may.length) false)≤P
  rw[aH7]
  omega
def Ku (n:Nt) (s:PS):Nt:=⟨n.places,n.first,n.ins,n.outs,Y9 s.keeps,n.nums,dQ n.code s.wd n.code.length⟩
def kT (n:Nt) (P:Nat):PS:=⟨List.replicate n.code.length false,cM (cM (List.replicate P false) n.keeps true) n.ins false,[],n.outs⟩
end Yw
end
section
open Go.RowKit Go.Sort Px
namespace Yw
open Nx (Nt Sp eJ kK bH jA eD)
open Ew (bM Hb Bx ZN)
theorem pO (h:Array Value) (W:World) (c:Nat) (j:Array Value) (v:Value) (hsz:j.size=7) (l:h[2]?.getD undef=.pointer (some ⟨c,0,none⟩)) (n:h[3]?.getD undef=v) (k:W.heap[c]?=some (.cells j 26 (0,0))) :
    (results Tryz.f14 h).run Tryz.prog W=.ok (.tuple #[.agg j,v]) W:=by
 simp[results,Tryz.results14,l,n,asAddr,Ew.xG hsz k]
structure LP (q B P:Nat) (w wr:World) (n:Nt) (pb:Nat) (vF vI vO vK vN vC:Value) (s:PS) (c:Pv) (v:Value):Prop where
 pm:PM wr pb (· < B) n.code s.wd s.may s.keeps c
 bx:Bx q w wr n vF vI vO vK vN vC
 lo:q+2≤pb/\q+2≤c.bw/\q+2≤c.bm/\∀g,c.vK.ownBlock=some g->q+2≤g
 good:tZ P n.code.length s
 st:∃j,s=aL n.code (kT n P) j
 pl:bH (· < wr.heap.size) wr v s.places
theorem LP.next {q B P:Nat}{w wr w':World}{n:Nt}{pb:Nat}{J O X U I Q:Value}{s:PS}{c D:Pv}{v y:Value}(Z:P≤4000) (h:LP q B P w wr n pb J O X U I Q s c v) (u:s.places≠[])
    (l:Ux (· < B) wr w' pb n.code s.may s.keeps (kJ (cM (List.replicate s.may.length false) s.places true,s.wd) (eU n.code n.code.length)).1 (kJ (cM (List.replicate s.may.length false) s.places true,s.wd) (eU n.code n.code.length)).2 c y D) :
    LP q B P w w' n pb J O X U I Q (iF n.code s) D y:=by
 have Y:=h.bx.size
 have k:=h.lo
 refine ⟨l.pm,h.bx.next (l.fr.below Y fun b hb=>?_),⟨k.1,by rw[l.same.1];exact k.2.1,by rw[l.same.2.1];exact k.2.2.1,fun g r=>?_⟩,(nV Z h.good).1,?_,l.more.carry fun b hb _=>⟨hb.2,rfl⟩⟩
 ·rcases hb with rfl|rfl|rfl|hb
  ·exact k.1
  ·exact k.2.1
  ·exact k.2.2.1
  ·exact k.2.2.2 b hb
 ·rcases l.nk g r with r|r
  ·exact k.2.2.2 g r
  ·omega
 ·obtain ⟨j,rfl⟩:=h.st
  exact ⟨j+1,by rw[aL,if_neg u]⟩
def num (s:PS):Nat:=2*sJ s.may+(if s.places=[] then 0 else 1)
theorem aC5 {P:Nat}{cs:List Sp}{s:PS}(j:P≤4000) (h:tZ P cs.length s) (c:s.places≠[]):num (iF cs s)<num s:=by
 have:=(nV j h).2
 unfold num
 rw[if_neg c]
 by_cases h0:(iF cs s).places=[]
 ·rw[if_pos h0]
  rw[h0] at this
  simp at this
  omega
 ·rw[if_neg h0]
  have:0<(iF cs s).places.length:=List.length_pos_iff.2 h0
  omega
theorem E3 {w:World}{n:Nt}{d1 Z J d4 Q d6:Option Addr}{U c1 k2 c2 O c3 k4 c4 Y c5 k6 c6 B P:Nat}(hB:B≤w.heap.size) (hN:eJ B w n (.slice d1 U c1) (.slice Z k2 c2) (.slice J O c3) (.slice d4 k4 c4) (.slice Q Y c5) (.slice d6 k6 c6)) (hr:kK n) (hP:n.places=P) :
    Calls Tryz.prog 14 #[.agg #[.int .i64 n.places,.slice d1 U c1,.slice Z k2 c2,.slice J O c3,.slice d4 k4 c4,.slice Q Y c5,.slice d6 k6 c6]] w fun e w'=>∃s,(∃j,s=aL n.code (kT n P) j)/\s.places=[]/\Hb (Ku n s) w e w':=by
 have HX:=Bx.start w n (.slice d1 U c1) (.slice Z k2 c2) (.slice J O c3) (.slice d4 k4 c4) (.slice Q Y c5) (.slice d6 k6 c6)
 obtain ⟨pn,ah⟩:∃p,p=n.places:=⟨_,rfl⟩
 obtain ⟨W,hW⟩:∃W,W=(w.alloc (.cells #[.int .i64 n.places,.slice d1 U c1,.slice Z k2 c2,.slice J O c3,.slice d4 k4 c4,.slice Q Y c5,.slice d6 k6 c6] 26)).alloc (.cells ZN 26):=⟨_,rfl⟩
 obtain ⟨q,hq⟩:∃q,q=w.heap.size:=⟨_,rfl⟩
 rw[<-hW,<-hq] at HX
 have am:P≤4000:=by have:=hr.p;omega
 have HB:Hid (Bx q w W n (.slice d1 U c1) (.slice Z k2 c2) (.slice J O c3) (.slice d4 k4 c4) (.slice Q Y c5) (.slice d6 k6 c6)):=HX
 have D:Hid (eJ B w n (.slice d1 U c1) (.slice Z k2 c2) (.slice J O c3) (.slice d4 k4 c4) (.slice Q Y c5) (.slice d6 k6 c6)/\kK n/\n.places=P/\B≤w.heap.size/\pn=n.places/\P≤4000):=⟨hN,hr,hP,hB,ah,am⟩
 have ai:=Ew.Nh (HX.old hB hN) (aH5 hB HX.bel.size) hr
 have ab:∀w1,Below W.heap.size W w1->Calls Tryz.prog 28 #[.agg #[.int .i64 n.places,.slice d1 U c1,.slice Z k2 c2,.slice J O c3,.slice d4 k4 c4,.slice Q Y c5,.slice d6 k6 c6]] w1 fun e w2=>∃pb c,e=.returned (.pointer (some ⟨pb,0,none⟩))/\Hid (∃v,v=.slice J O c3/\LP q B P w w2 n pb (.slice d1 U c1) (.slice Z k2 c2) (.slice J O c3) (.slice d4 k4 c4) (.slice Q Y c5) (.slice d6 k6 c6) (kT n P) c v):=fun w1 h1=>by
  have b1:=HX.next (h1.mono HX.size)
  have bm:B≤w1.heap.size:=aH5 (aH5 hB HX.bel.size) h1.size
  refine (Nn bm (b1.old hB hN) hP am hr.c (by have:=hr.l;omega) (fun p hp=>by have:=(Nx.iN _ _).1 (hr.k p hp);omega) (fun p hp=>by have:=(Nx.iN _ _).1 (hr.i p hp);omega)).mono fun e w2 h=>?_
  obtain ⟨pb,c,he,hh⟩:=h
  obtain ⟨g1,g2,g3,g4,g5,g6⟩:=hh.out
  have hs:=b1.size
  have b2:=b1.next (g6.mono hs)
  refine ⟨pb,c,he,_,rfl,g1,b2,⟨by omega,by omega,by omega,fun g hg=>?_⟩,⟨?_,by simp[kT],fun p hp=>by have:=(Nx.iN _ _).1 (hr.o p hp);omega,by have:=hr.l;show n.outs.length≤4000;omega,?_⟩,⟨0,rfl⟩,(b2.old hB hN).o.carry fun b hb _=>⟨by have:=b2.bel.size;show b<w2.heap.size;omega,rfl⟩⟩
  ·rw[g5] at hg;cases hg
  ·show (cM (cM (List.replicate P false) n.keeps true) n.ins false).length=P
   simp[eX]
  ·have:=Uf (kT n P).may
   have h2:(kT n P).may.length=P:=by show (cM (cM (List.replicate P false) n.keeps true) n.ins false).length=P;simp[eX]
   show ([]:List Int).length+sJ (kT n P).may≤P
   simp
   omega
 obtain ⟨a0,a1,a2,a3,a4,a5,a6⟩:=Nx.lC HX.b1
 rw[<-ah] at hW a0 ai ab ⊢
 clear HX hN hr ah hB hP am
 go_enter Tryz.func14,Tryz.ntmps14
 go_upto_region 1 with fail
 rw[show (w.alloc (.cells #[.int .i64 pn,.slice d1 U c1,.slice Z k2 c2,.slice J O c3,.slice d4 k4 c4,.slice Q Y c5,.slice d6 k6 c6] 26)).alloc (.cells #[.int .i64 0,.slice none 0 0,.slice none 0 0,.slice none 0 0,.slice none 0 0,.slice none 0 0,.slice none 0 0] 26)=W from hW.symm,<-hq]
 clear hW hq
 go_upto_region 5 with (first
  | (go_at_call 21;refine ai.mono ?_;rintro e w1 ⟨rfl,h1⟩;clear ai
     obtain ⟨e0,e1,e2,e3,e4,e5,e6⟩:=Nx.lC (aD h1.out HB.out.b1)
     rw[<-D.out.2.2.2.2.1] at e0)
  | (go_at_call 28;refine (ab w1 h1.out).mono ?_;rintro e w2 ⟨pb,c,rfl,h2⟩;clear ab))
 obtain ⟨v0,rfl,al⟩:=h2.out
 have H0:Hid (LP q B P w w2 n pb (.slice d1 U c1) (.slice Z k2 c2) (.slice J O c3) (.slice d4 k4 c4) (.slice Q Y c5) (.slice d6 k6 c6) (kT n P) c (.slice J O c3)):=al
 obtain ⟨-,-,-,b3,-,-,-⟩:=Nx.lC al.bx.b1
 clear h2 al e0 e1 e2 e3 e4 e5 e6 h1 a0 a1 a2 a3 a4 a5 a6
 go_wp2_with fail
 go_loopg [6] (num (kT n P)) (fun f v wr=>∃s c,f=num s/\Hid (LP q B P w wr n pb (.slice d1 U c1) (.slice Z k2 c2) (.slice J O c3) (.slice d4 k4 c4) (.slice Q Y c5) (.slice d6 k6 c6) s c v))
 case atStart=>exact ⟨_,c,rfl,H0.out⟩
 case round=>
  obtain ⟨s,c,rfl,I⟩:=hrel
  clear b3 H0
  obtain ⟨bz,bp,op,cp,bo,ar,ax⟩:=id I.out.pl
  subst bo
  obtain ⟨pl,aa⟩:∃l,l=s.places.length:=⟨_,rfl⟩
  rw[<-aa]
  by_cases hz:s.places.length=0
  ·have af:s.places=[]:=aO2.1 hz
   rw[<-aa] at hz
   subst hz
   have ao:Hid (s.places=[]):=af
   clear ar ax aa af
   obtain ⟨ak,ck,an,br⟩:=Nx.iH.form (e:=3) I.out.pm.k
   have ac:=Nx.iH.ints (e:=3) I.out.pm.k
   rw[an] at ac
   obtain ⟨kl,aj⟩:∃l,l=s.keeps.length:=⟨_,rfl⟩
   have u3:=aA I.out.pm.hk 3 (u:=c.vK) rfl
   rw[an] at u3
   rw[<-aj] at u3 ac
   obtain ⟨z0,z1,z2,z3,z4,z5,z6⟩:=Nx.lC I.out.bx.b1
   rw[<-D.out.2.2.2.2.1] at z0
   have HS:Hid (∀w',Below wr.heap.size wr w'->w'.cell? ⟨q,0,none⟩=some (.int .i64 pn)/\w'.cell? ⟨q,1,none⟩=some (.slice d1 U c1)/\w'.cell? ⟨q,2,none⟩=some (.slice Z k2 c2)/\w'.cell? ⟨q,3,none⟩=some (.slice J O c3)/\w'.cell? ⟨q,5,none⟩=some (.slice Q Y c5)/\w'.cell? ⟨pb,3,none⟩=some (.slice ak kl ck)):=fun w' hb=>⟨aN hb z0,aN hb z1,aN hb z2,aN hb z3,aN hb z5,aN hb u3⟩
   have HZ:Hid (∀w',Below wr.heap.size wr w'->w'.heap[q+1]?=some (.cells ZN 26 (0,0))):=fun w' hb=>aD hb I.out.bx.b2
   have HI:Hid (∀w',Below wr.heap.size wr w'->bH (· < B) w' (.slice d1 U c1) n.first/\bH (· < B) w' (.slice Z k2 c2) n.ins/\bH (· < B) w' (.slice J O c3) n.outs/\bH (· < B) w' (.slice Q Y c5) n.nums):=fun w' hb=>by
    have bw:Below w.heap.size w w':=aQ I.out.bx.bel hb
    have kp:Nx.bB (· < B) (· < B) w w':=fun b hb _=>⟨hb,bw.block b (aH3 hb D.out.2.2.2.1)⟩
    exact ⟨D.out.1.f.carry kp,D.out.1.i.carry kp,D.out.1.o.carry kp,D.out.1.m.carry kp⟩
   have HD:Hid (Below wr.heap.size wr wr.drew):=(Below.refl _ wr).drew
   have ap:Hid (∀W v zs,Below wr.heap.size wr W->zs.length≤4000->bH (· < B) W v zs->Calls Tryz.prog 24 #[v] W fun e w'=>∃f c,e=.returned (.slice f zs.length c)/\Hid (Below W.heap.size W w'/\Below wr.heap.size wr w'/\bH (fun b=>wr.heap.size≤b/\b<w'.heap.size) w' (.slice f zs.length c) zs)):=fun W v zs hb hl hi=>(Nx.aT7 hi (by omega)).mono fun e w' ⟨f,c,he,h⟩=>⟨f,c,he,h.out.1,aQ hb h.out.1,h.out.2.carry fun b y _=>⟨⟨aH5 hb.size y.1,y.2⟩,rfl⟩⟩
   have HQ:Hid (∀W v zs,Below wr.heap.size wr W->zs.length≤4000->bH (· < B) W v zs->Calls Tryz.prog 25 #[v] W fun e w'=>∃f c,e=.returned (.slice f zs.length c)/\Hid (Below W.heap.size W w'/\Below wr.heap.size wr w'/\bH (fun b=>wr.heap.size≤b/\b<w'.heap.size) w' (.slice f zs.length c) zs)):=fun W v zs hb hl hi=>(Nx.clI hi (by omega)).mono fun e w' ⟨f,c,he,h⟩=>⟨f,c,he,h.out.1,aQ hb h.out.1,h.out.2.carry fun b y _=>⟨⟨aH5 hb.size y.1,y.2⟩,rfl⟩⟩
   have HV:Hid (∀W,Below wr.heap.size wr W->Calls Tryz.prog 31 #[.slice ak kl ck] W fun e w'=>∃Bs,e=.returned (.func (.func 55) #[] #[.pointer (some ⟨Bs,0,none⟩)])/\Hid (Below W.heap.size W w'/\Below wr.heap.size wr w'/\w'.cell? ⟨Bs,0,none⟩=some (.slice ak kl ck))):=fun W hb=>(Dj ak kl ck W).mono fun e w' ⟨he,hw⟩=>by
    have aw:Below W.heap.size W w':=by rw[hw];exact aC _ _
    exact ⟨_,he,aw,aQ hb aw,aA (by rw[hw];exact aX _ _) 0 rfl⟩
   have ad:Hid (bH (fun b=>0≤b/\b<wr.heap.size) wr (.slice ak kl ck) s.keeps/\kl=s.keeps.length/\kl≤4000):=⟨ac,aj,by have:=I.out.good.k;have:=D.out.2.2.2.2.2;omega⟩
   have bj:Hid (∀W Bs,Below wr.heap.size wr W->W.cell? ⟨Bs,0,none⟩=some (.slice ak kl ck)->Calls Tryz.prog 30 #[.func (.func 55) #[] #[.pointer (some ⟨Bs,0,none⟩)]] W fun e w'=>∃f c,e=.returned (.slice f (Y9 s.keeps).length c)/\Hid (Below W.heap.size W w'/\Below wr.heap.size wr w'/\bH (fun b=>wr.heap.size≤b/\b<w'.heap.size) w' (.slice f (Y9 s.keeps).length c) (Y9 s.keeps))):=fun W Bs hb hc=>by
    have hi:bH (fun b=>0≤b/\b<wr.heap.size) W (.slice ak s.keeps.length ck) s.keeps:=by
     rw[<-ad.out.2.1]
     exact ad.out.1.carry fun b y hl=>⟨y,hb.block b hl⟩
    refine (Dv (by rw[<-ad.out.2.1];exact hc) hi (by have:=ad.out;omega)).mono fun e w' ⟨v,he,h⟩=>?_
    obtain ⟨h1,h2⟩:=h.out
    obtain ⟨f,_,_,cc,rfl,_⟩:=id h1
    exact ⟨f,cc,he,h2,aQ hb h2,h1.carry fun b y _=>⟨⟨aH5 hb.size y.1,y.2⟩,rfl⟩⟩
   have bh:Hid (∀W,Below wr.heap.size wr W->Calls Tryz.prog 32 #[.pointer (some ⟨pb,0,none⟩)] W fun e w'=>∃f c,e=.returned (.slice f (dQ n.code s.wd n.code.length).length c)/\Hid (Below W.heap.size W w'/\Below wr.heap.size wr w'/\Nx.jA (fun b=>wr.heap.size≤b/\b<w'.heap.size) w' (.slice f (dQ n.code s.wd n.code.length).length c) (dQ n.code s.wd n.code.length))):=fun W hb=>(Rt (I.out.pm.below hb) D.out.2.1.c).mono fun e w' ⟨f,c,he,h⟩=>⟨f,c,he,h.out.2,aQ hb h.out.2,h.out.1.carry fun b y _=>⟨⟨aH5 hb.size y.1,y.2⟩,rfl⟩⟩
   have ae:Hid (n.first.length≤4000/\n.ins.length≤4000/\n.outs.length≤4000/\n.nums.length≤4000):=by have:=D.out.2.1.l;have:=D.out.2.1.m;have:=D.out.2.1.f;have:=D.out.2.1.p;unfold Hid;omega
   have ay:¬pb=q+1:=by have:=I.out.lo.1;omega
   have bu:¬q+1=pb:=fun e=>ay e.symm
   have ba:=HS.out _ HD.out
   have T1:Hid True:=trivial
   have T2:Hid True:=trivial
   have T3:Hid True:=trivial
   have T4:Hid True:=trivial
   have ag:=(HI.out _ HD.out)
   have bb:Hid _:=ag
   clear an br ac aj u3 z0 z1 z2 z3 z4 z5 z6 ag
   go_upto_region 8 with fail
   go_region_held3 (fun w'=>w'.cell? ⟨q,0,none⟩=some (.int .i64 pn)/\w'.cell? ⟨q,1,none⟩=some (.slice d1 U c1)/\w'.cell? ⟨q,2,none⟩=some (.slice Z k2 c2)/\w'.cell? ⟨q,3,none⟩=some (.slice J O c3)/\w'.cell? ⟨q,5,none⟩=some (.slice Q Y c5)/\w'.cell? ⟨pb,3,none⟩=some (.slice ak kl ck)) (first|with_reducible exact bn|with_reducible exact bq|with_reducible exact bi|with_reducible exact az|with_reducible exact bf|with_reducible exact be|with_reducible exact bc|with_reducible exact ba|go_keep)
    (first
     | (clear T1;go_at_call 24;refine (ap.out wr.drew _ _ HD.out ae.out.1 bb.out.1).mono ?_;rintro e w2 ⟨f1,g1,rfl,h2⟩;have bc:=HS.out _ h2.out.2.1)
     | (clear T2;go_at_call 25;refine (HQ.out w2 _ _ h2.out.2.1 ae.out.2.1 (HI.out _ h2.out.2.1).2.1).mono ?_;rintro e w3 ⟨f2,g2,rfl,h3⟩;have be:=HS.out _ h3.out.2.1)
     | (clear T3;go_at_call 25;refine (HQ.out w3 _ _ h3.out.2.1 ae.out.2.2.1 (HI.out _ h3.out.2.1).2.2.1).mono ?_;rintro e w4 ⟨f3,g3,rfl,h4⟩;have bf:=HS.out _ h4.out.2.1)
     | (go_at_call 31;refine (HV.out w4 h4.out.2.1).mono ?_;rintro e w5 ⟨Bs,rfl,h5⟩;have az:=HS.out _ h5.out.2.1)
     | (go_at_call 30;refine (bj.out w5 Bs h5.out.2.1 h5.out.2.2).mono ?_;rintro e w6 ⟨f4,g4,rfl,h6⟩;have bi:=HS.out _ h6.out.2.1)
     | (clear T4;go_at_call 24;refine (ap.out w6 _ _ h6.out.2.1 ae.out.2.2.2 (HI.out _ h6.out.2.1).2.2.2).mono ?_;rintro e w7 ⟨f5,g5,rfl,h7⟩;have bq:=HS.out _ h7.out.2.1)
     | (go_at_call 32;refine (bh.out w7 h7.out.2.1).mono ?_;rintro e w8 ⟨f6,g6,rfl,h8⟩;have bn:=HS.out _ h8.out.2.1;have kz:=HZ.out _ h8.out.2.1;obtain ⟨r0,r1,r2,r3,r4,r5,r6⟩:=Nx.lC kz;have rf:=fun o=>aG kz o))
   all_goals
    go_wp2_with fail
    obtain ⟨X,hX⟩:∃X,X=((((((w8.setCell ⟨q+1,0,none⟩ (.int .i64 pn)).setCell ⟨q+1,1,none⟩ (.slice f1 n.first.length g1)).setCell ⟨q+1,2,none⟩ (.slice f2 n.ins.length g2)).setCell ⟨q+1,3,none⟩ (.slice f3 n.outs.length g3)).setCell ⟨q+1,4,none⟩ (.slice f4 (Y9 s.keeps).length g4)).setCell ⟨q+1,5,none⟩ (.slice f5 n.nums.length g5)).setCell ⟨q+1,6,none⟩ (.slice f6 (dQ n.code s.wd n.code.length).length g6):=⟨_,rfl⟩
    rw[<-hX]
    obtain ⟨y0,y1,y2,y3⟩:=Ew.Zi kz hX
    clear hX
    refine aX5 (pO _ _ (q+1) _ _ rfl rfl rfl y0) rfl ?_
    have bv:=I.out.bx.hq
    have hsz:=I.out.bx.size
    have hx:∀b,b≠q+1->X.heap[b]?=w8.heap[b]?:=y1
    have kp:∀(W:World) (A:Nat->Prop),Below W.heap.size W w8->(∀b,A b->b≠q+1)->Nx.bB A (· < X.heap.size) W X:=fun W A hW hA b hb hl=>⟨by show b<X.heap.size;rw[y3];exact aH3 hl hW.size,by rw[hx b (hA b hb),hW.block b hl]⟩
    have e8:Below w8.heap.size w8 w8:=Below.refl _ _
    have e7:=h8.out.1
    have e6:=aQ h7.out.1 e7
    have e5:=aQ h6.out.1 e6
    have e4:=aQ h5.out.1 e5
    have e3:=aQ h4.out.1 e4
    have e2:=aQ h3.out.1 e3
    rw[D.out.2.2.2.2.1]
    exact ⟨s,I.out.st,ao.out,f1,f2,f3,f4,f5,f6,_,g1,_,g2,_,g3,_,g4,_,g5,_,g6,rfl,y2 _ _ (aQ I.out.bx.bel h8.out.2.1) (by omega),⟨h2.out.2.2.carry (kp _ _ e2 fun b hb=>by omega),h3.out.2.2.carry (kp _ _ e3 fun b hb=>by omega),h4.out.2.2.carry (kp _ _ e4 fun b hb=>by omega),h6.out.2.2.carry (kp _ _ e6 fun b hb=>by omega),h7.out.2.2.carry (kp _ _ e7 fun b hb=>by omega),h8.out.2.2.carry (kp _ _ e8 fun b hb=>by omega)⟩⟩
  ·have av:s.places≠[]:=fun e=>hz (by rw[e];rfl)
   have hg:=I.out.good
   have ca:((0:Int)<(pl:Int)):=by omega
   have hw:=Om (nn:=n.nums.length) I.out.pm I.out.pl (fun b hb=>hb) (fun b hb=>by have:=D.out.2.2.2.1;have:=I.out.bx.bel.size;show b<wr.heap.size;have:b<B:=hb;omega) (by have:=hg.k;have:=D.out.2.2.2.2.2;omega) hg.l (by rw[hg.m];exact hg.r) D.out.2.1.c (by rw[hg.m];exact D.out.2.2.2.2.2) (by rw[hg.m,<-D.out.2.2.1];exact D.out.2.1.s)
   try rw[<-aa] at hw
   try rw[<-aa]
   have au:Hid (s.places≠[]):=av
   clear av hg aa hz ar ax
   go_wp2_with (go_at_call 29;refine hw.mono ?_;rintro e w3 ⟨v3,bk,rfl,h3⟩;clear hw)
   go_roundg (num (iF n.code s))
   case measure=>exact aC5 D.out.2.2.2.2.2 I.out.good au.out
   case rel=>exact ⟨_,bk,rfl,I.out.next D.out.2.2.2.2.2 au.out h3.out⟩
end Yw
end
end Go.Proofs.YthieaobjdpfcoaaGreatDoor
