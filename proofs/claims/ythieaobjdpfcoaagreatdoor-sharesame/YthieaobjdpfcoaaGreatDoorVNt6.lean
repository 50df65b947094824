import Derived.Test.YthieaobjdpfcoaaGreatDoorVNt3
import Derived.Shelf.Sort.Plain
import Derived.Ground.Names2Prog
import Derived.Shelf.Slices.Clone
import Derived.Shelf.Slices.Cells
import Derived.Shelf.Slices.In.SortNone
import Derived.Test.YthieaobjdpfcoaaGreatDoorProg
import Derived.Lib.OwnBridge
import Derived.Sort.OwnSortedInts
set_option maxRecDepth 100000
set_option maxHeartbeats 4000000
namespace Go.Proofs.YthieaobjdpfcoaaGreatDoor
open Go.Proofs.Tryz (prog)
section
open Go.RowKit
namespace Nx
structure Oe (B:Nat) (w:World) (bm g:Nat) (n:Nt) (V:List Int):Prop where
 row:∃vF vI vO vK vN vC vp,w.heap[bm]?=some (.cells (pV n.places vF vI vO vK vN vC vp) 145 (0,0))/\bH (· < B) w vI n.ins/\bH (· < B) w vO n.outs/\bH (· < B) w vK n.keeps/\bH (· < B) w vN n.nums/\jA (· < B) w vC n.code/\Own w vp V g
 hb:B≤bm
 hg:B≤g
 gm:g≠bm
 gl:g<w.heap.size
structure Ys (n:Nt) (V:List Int):Prop where
 v:V.length≤100000
 ins:n.ins.length≤100000
 outs:n.outs.length≤100000
 keeps:n.keeps.length≤100000
 code:n.code.length≤100000
theorem Sf (ad:Option Addr) (b c n cap k:Nat) (j:k<n) (h:0<n->ad=some ⟨b,c,none⟩) (w:World):(Instr.indexAt 24 (.slice ad n cap) (.int .i64 (k:Int))).run prog w=.ok (.pointer (some ⟨b,c+k*5,none⟩)) w:=by
 obtain rfl:=h (by omega)
 rw[aY8 _ _ _ _ _ _ _ (by kernel_rfl),if_pos ⟨by omega,by omega⟩]
 have e:(sizeOf (prog.elem 24)).run prog w=.ok 5 w:=by kernel_rfl
 rw[e]
 simp[Result.andThen,Addr.add]
theorem xU (B:Nat) (n:Nt) (V ins:List Int) (r g:Nat) (vi:Value) (w:World) (hM:Oe B w r g n V) (hi:bH (· < B) w vi ins) (hf:Ys n V) :
 Calls prog 49 #[.pointer (some ⟨r,0,none⟩),vi] w fun e w'=>∃v g',e=.returned v/\Oe B w' r g' n (after n V ins)/\bH (fun b=>w.heap.size≤b/\b<g') w' v (tells n V ins)/\Fr w.heap.size [r,g] w w'/\w.heap.size≤g'/\g'<w'.heap.size:=by
 obtain ⟨⟨vF,vI,vO,vK,vN,vC,vp,hm,hI,hO,hK,hN,hC,hp⟩,dd,dp,cc,al⟩:=hM
 have cd:=aB hm
 obtain ⟨ap,bI,ah,af,rfl,br,cg⟩:=id hI
 obtain ⟨aj,bO,ac,ae,rfl,ce,bu⟩:=id hO
 obtain ⟨ao,bC,ay,ag,rfl,bv,bw⟩:=id hC
 obtain ⟨u,j,rfl,db⟩:=id hp
 obtain ⟨cm,bi,dm,az,rfl,cu,cn⟩:=id hi
 obtain ⟨Y,bN,dk,J,rfl,di,cr⟩:=id hN
 have h1:=hf.ins;have h2:=hf.outs;have h3:=hf.code;have h4:=hf.v;have ct:=hf.keeps
 have HM:Hid (w.heap[r]?=some (.cells (pV n.places vF (.slice ap n.ins.length af) (.slice aj n.outs.length ae) vK (.slice Y n.nums.length J) (.slice ao n.code.length ag) (.slice u V.length j)) 145 (0,0))):=hm
 have HI:Hid (bH (· < B) w (.slice ap n.ins.length af) n.ins):=hI
 have HO:Hid (bH (· < B) w (.slice aj n.outs.length ae) n.outs):=hO
 have HK:Hid (bH (· < B) w vK n.keeps):=hK
 have HN:Hid (bH (· < B) w (.slice Y n.nums.length J) n.nums):=hN
 have HC:Hid (jA (· < B) w (.slice ao n.code.length ag) n.code):=hC
 have Hi:Hid (bH (· < B) w (.slice cm ins.length az) ins):=hi
 have be:Hid ((0<n.ins.length->ap=some ⟨bI,ah,none⟩/\bI<B)/\∀k,k<n.ins.length->w.cell? ⟨bI,ah+k,none⟩=some (.int .i64 (n.ins.getD k 0))):=⟨br,cg⟩
 have bc:Hid ((0<n.outs.length->aj=some ⟨bO,ac,none⟩/\bO<B)/\∀k,k<n.outs.length->w.cell? ⟨bO,ac+k,none⟩=some (.int .i64 (n.outs.getD k 0))):=⟨ce,bu⟩
 have av:Hid ((0<n.code.length->ao=some ⟨bC,ay,none⟩/\bC<B)/\_):=⟨bv,bw⟩
 have HP:Hid (Own w (.slice u V.length j) V g):=hp
 have HG:Hid (g<w.heap.size):=al
 clear hm hI hO hK hN hC hi br cg ce bu bv bw hp db cu cn di cr al hf
 -- the world at the start of the loops
 obtain ⟨W,hW⟩:=gQx (w.alloc (.cells #[.pointer (some ⟨r,0,none⟩)] 97))
 have HS:Hid (W.heap.size=w.heap.size+1):=by unfold Hid;rw[hW];simp
 have ai:Hid (Fr w.heap.size [] w W):=by unfold Hid;rw[hW];exact (Fr.refl _ _ _).alloc (aO4 _) _
 have HQ:Hid (W.cell? ⟨w.heap.size,0,none⟩=some (.pointer (some ⟨r,0,none⟩))):=by unfold Hid;rw[hW];simp
 -- what stays,in whatever world behind it
 have bo:Hid (∀wr,Fr W.heap.size [g] W wr->wr.heap[r]?=w.heap[r]?/\wr.cell? ⟨w.heap.size,0,none⟩=some (.pointer (some ⟨r,0,none⟩))/\bB (· < B) (· < B) w wr/\w.heap.size<wr.heap.size):=by
  intro wr h
  have s1:=HS.out
  refine ⟨?_,?_,?_,?_⟩
  ·rw[h.block r (by omega) (by simp;omega),ai.out.block r cd (by simp)]
  ·rw[aY (h.block w.heap.size (by omega) (by have:=HG.out;simp;omega))];exact HQ.out
  ·intro b hb hl
   exact ⟨hb,by rw[h.block b (by omega) (by simp;omega),ai.out.block b hl (by simp)]⟩
  ·have:=h.size;omega
 have c2:(w.alloc (.cells #[.pointer (some ⟨r,0,none⟩)] 97)).cell? ⟨r,2,none⟩=some (.slice ap n.ins.length af):=by rw[<-hW,aY (ai.out.block r cd (by simp)),aF HM.out];rfl
 have HW:Hid (W=w.alloc (.cells #[.pointer (some ⟨r,0,none⟩)] 97)):=hW
 clear hW
 go_enter Tryz.func49,Tryz.ntmps49
 go_wp2
 rw[<-HW.out]
 clear c2
 go_loopw [22] (fun i wr=>∃k:Nat,k≤n.ins.length/\i=.int .i64 k/\Own wr (.slice u V.length j) (pF n.ins ins V k) g/\Fr W.heap.size [g] W wr) (fun i _=>n.ins.length-(intOf i).toNat)
 case atStart=>exact ⟨0,aP6 _,rfl,HP.out.keep (ai.out.block g HG.out (by simp)),Fr.refl _ _ _⟩
 case round=>
  obtain ⟨k,hk,rfl,l,hF⟩:=hrel
  obtain ⟨sb,c0,sk,sl⟩:=bo.out wr hF
  have HF:Hid (Fr W.heap.size [g] W wr):=hF
  have SB:Hid (wr.heap[r]?=w.heap[r]?):=sb
  have SK:Hid (bB (· < B) (· < B) w wr):=sk
  clear hF sb sk
  by_cases hlt:k<n.ins.length
  ·have ba:=Q7 ap bI ah n.ins.length af k hlt (fun h=>(be.out.1 h).1)
   obtain ⟨x,hx⟩:=gQx (n.ins.getD k 0)
   have cx:wr.cell? ⟨bI,ah+k,none⟩=some (.int .i64 x):=by
    have:=be.out.2 k hlt
    rw[aY (SK.out bI (be.out.1 (by omega)).2 (cC this)).2,hx];exact this
   have c7:wr.cell? ⟨r,7,none⟩=some (.slice u V.length j):=by rw[aY SB.out,aF HM.out];rfl
   have ci:=X5 (A:=(· < B)) (.slice cm ins.length az) ins k wr.drew ((Hi.out.carry SK.out).carry (fun b hb _=>⟨hb,rfl⟩))
   rw[Yb] at ci
   have au:=nU (.slice u V.length j) (pF n.ins ins V k) g x (ins.getD k 0) wr.drew (l.keep rfl)
   have HX:Hid (x=n.ins.getD k 0):=hx
   clear hx l
   go_wp2_with fail
   go_region_with (first|(go_at_call 81;refine ci.mono ?_;rintro e w' ⟨rfl,rfl⟩)|(go_at_call 82;refine au.mono ?_;rintro e w2 ⟨rfl,bb,dj⟩))
   all_goals
    go_wp2_with fail
    go_roundw
    case rel=>exact ⟨k+1,by omega,by go_num,by rw[pF,<-HX.out];exact bb,HF.out.trans ((Fr.refl _ _ wr).drew.trans (dj.mono (aO6 HF.out.size (aO4 _)) (fun y hy _=>hy)))⟩
    case measure=>simp[intOf];omega
  ·obtain rfl:k=n.ins.length:=by omega
   have c6:wr.cell? ⟨r,6,none⟩=some (.slice ao n.code.length ag):=by rw[aY SB.out,aF HM.out];rfl
   have ab:=lL n.ins ins V n.ins.length
   obtain ⟨V1,bk⟩:=gQx (pF n.ins ins V n.ins.length)
   rw[<-bk] at ab l
   have ch:Hid (V1=pF n.ins ins V n.ins.length):=bk
   have ca:Hid (V1.length=V.length):=ab
   have am:Hid (Own wr (.slice u V.length j) V1 g):=l
   clear bk ab l hlt hk
   go_wp2
   go_loopw [43] (fun i wr=>∃k:Nat,k≤n.code.length/\i=.int .i64 k/\Own wr (.slice u V.length j) (iZ n.nums n.code V1 k) g/\Fr W.heap.size [g] W wr) (fun i _=>n.code.length-(intOf i).toNat)
   case atStart=>exact ⟨0,aP6 _,rfl,am.out,HF.out⟩
   case round=>
    clear c6 c0 sl SB SK am HF
    obtain ⟨k,hk,rfl,l,hF⟩:=hrel
    obtain ⟨sb,c0,sk,sl⟩:=bo.out wr hF
    have HF:Hid (Fr W.heap.size [g] W wr):=hF
    have SB:Hid (wr.heap[r]?=w.heap[r]?):=sb
    have SK:Hid (bB (· < B) (· < B) w wr):=sk
    clear hF sb sk
    by_cases hlt:k<n.code.length
    ·have ba:=Sf ao bC ay n.code.length ag k hlt (fun h=>(av.out.1 h).1)
     obtain ⟨s,hs⟩:=gQx (n.code.getD k eD)
     have cb:wr.heap[bC]?=w.heap[bC]?:=(SK.out bC (av.out.1 (by omega)).2 (cC (av.out.2 k hlt).1)).2
     obtain ⟨x0,x1,x2,x3,x4⟩:=av.out.2 k hlt
     rw[<-aY cb,<-hs] at x0 x1 x2 x3 x4
     have HX:Hid (s=n.code.getD k eD):=hs
     clear hs cb
     have cj:MV (· < B) wr w.heap.size r g (.slice u V.length j) (.slice Y n.nums.length J) (iZ n.nums n.code V1 k) n.nums:=
      ⟨c0,by rw[aY SB.out,aF HM.out];rfl,l,fun _=>Nat.lt_trans HG.out sl,HN.out.carry SK.out⟩
     have ck:wr.cell? ⟨r,5,none⟩=some (.slice Y n.nums.length J):=by rw[aY SB.out,aF HM.out];rfl
     go_wp2_with fail
     obtain ⟨W2,U⟩:=gQx (wr.alloc (.cells #[.int .i64 s.code,.int .i64 s.dst,.int .i64 s.a,.int .i64 s.b,.int .i64 s.c] 38))
     have an:Below wr.heap.size wr W2:=by rw[U];exact aE wr _
     have e0:W2.cell? ⟨wr.heap.size,0,none⟩=some (.int .i64 s.code):=by rw[U];simp
     have e1:W2.cell? ⟨wr.heap.size,1,none⟩=some (.int .i64 s.dst):=by rw[U];simp
     have e2:W2.cell? ⟨wr.heap.size,2,none⟩=some (.int .i64 s.a):=by rw[U];simp
     have e3:W2.cell? ⟨wr.heap.size,3,none⟩=some (.int .i64 s.b):=by rw[U];simp
     have e4:W2.cell? ⟨wr.heap.size,4,none⟩=some (.int .i64 s.c):=by rw[U];simp
     rw[<-U]
     have dl:wr.heap.size<W2.heap.size:=by rw[U];simp
     clear U x0 x1 x2 x3 x4 ba c0
     have X:=cj.below an
     have c0:=X.q
     have c7:=X.p
     have c5:=bG an ck
     have hdr:Below W2.heap.size W2 W2.drew:=⟨rfl,rfl,rfl,aO4 _,fun _ _=>rfl⟩
     have bn:=gU W2.drew w.heap.size r g _ _ _ _ s (X.below hdr)
     have bg:Hid (∀w3,Below W2.drew.heap.size W2.drew w3->(w3.cell? ⟨w.heap.size,0,none⟩=some (.pointer (some ⟨r,0,none⟩))/\w3.cell? ⟨r,7,none⟩=some (.slice u V.length j)/\w3.cell? ⟨r,5,none⟩=some (.slice Y n.nums.length J)/\w3.cell? ⟨wr.heap.size,0,none⟩=some (.int .i64 s.code)/\w3.cell? ⟨wr.heap.size,1,none⟩=some (.int .i64 s.dst)/\w3.cell? ⟨wr.heap.size,2,none⟩=some (.int .i64 s.a)/\w3.cell? ⟨wr.heap.size,3,none⟩=some (.int .i64 s.b)/\w3.cell? ⟨wr.heap.size,4,none⟩=some (.int .i64 s.c))/\
         Calls prog 82 #[.slice u V.length j,.int .i64 s.dst,.int .i64 (made n.nums (iZ n.nums n.code V1 k) s)] w3 fun e w'=>e=.returned (.tuple #[])/\Own w' (.slice u V.length j) (put (iZ n.nums n.code V1 k) s.dst (made n.nums (iZ n.nums n.code V1 k) s)) g/\Fr W.heap.size [g] W w'/\(w'.cell? ⟨w.heap.size,0,none⟩=some (.pointer (some ⟨r,0,none⟩))/\w'.cell? ⟨r,7,none⟩=some (.slice u V.length j)/\w'.cell? ⟨r,5,none⟩=some (.slice Y n.nums.length J)/\w'.cell? ⟨wr.heap.size,0,none⟩=some (.int .i64 s.code)/\w'.cell? ⟨wr.heap.size,1,none⟩=some (.int .i64 s.dst)/\w'.cell? ⟨wr.heap.size,2,none⟩=some (.int .i64 s.a)/\w'.cell? ⟨wr.heap.size,3,none⟩=some (.int .i64 s.b)/\w'.cell? ⟨wr.heap.size,4,none⟩=some (.int .i64 s.c))):=by
      intro w3 aw
      have ar:=(X.below hdr).below aw
      have I:=iF hdr aw
      have bp:(w3.cell? ⟨w.heap.size,0,none⟩=some (.pointer (some ⟨r,0,none⟩))/\w3.cell? ⟨r,7,none⟩=some (.slice u V.length j)/\w3.cell? ⟨r,5,none⟩=some (.slice Y n.nums.length J)/\w3.cell? ⟨wr.heap.size,0,none⟩=some (.int .i64 s.code)/\w3.cell? ⟨wr.heap.size,1,none⟩=some (.int .i64 s.dst)/\w3.cell? ⟨wr.heap.size,2,none⟩=some (.int .i64 s.a)/\w3.cell? ⟨wr.heap.size,3,none⟩=some (.int .i64 s.b)/\w3.cell? ⟨wr.heap.size,4,none⟩=some (.int .i64 s.c)):=⟨ar.q,ar.p,bG I c5,bG I e0,bG I e1,bG I e2,bG I e3,bG I e4⟩
      refine ⟨bp,(nU _ _ g s.dst (made n.nums (iZ n.nums n.code V1 k) s) w3 ar.own).mono fun e w' ⟨he,ho,hf⟩=>⟨he,ho,?_,?_⟩⟩
      ·exact (HF.out.trans (Fr.of_below (((iF an I).mono HF.out.size)) _)).trans (hf.mono (aO6 HF.out.size (iF an I).size) (fun y hy _=>hy))
      ·have far:∀b o,b≠g->(∃v,w3.cell? ⟨b,o,none⟩=some v)->w'.cell? ⟨b,o,none⟩=w3.cell? ⟨b,o,none⟩:=fun b o hne ⟨v,hv⟩=>aY (hf.block b (cC hv) (by simpa using hne)) o
       obtain ⟨f0,f7,f5,s0,s1,s2,s3,s4⟩:=bp
       have hG:=HG.out
       exact ⟨(far _ _ (by omega) ⟨_,f0⟩).trans f0,(far _ _ (Ne.symm cc) ⟨_,f7⟩).trans f7,(far _ _ (Ne.symm cc) ⟨_,f5⟩).trans f5,(far _ _ (by omega) ⟨_,s0⟩).trans s0,(far _ _ (by omega) ⟨_,s1⟩).trans s1,(far _ _ (by omega) ⟨_,s2⟩).trans s2,(far _ _ (by omega) ⟨_,s3⟩).trans s3,(far _ _ (by omega) ⟨_,s4⟩).trans s4⟩
     clear cj X ck hdr an l
     go_region_held3 (fun w'=>w'.cell? ⟨w.heap.size,0,none⟩=some (.pointer (some ⟨r,0,none⟩))/\w'.cell? ⟨r,7,none⟩=some (.slice u V.length j)/\w'.cell? ⟨r,5,none⟩=some (.slice Y n.nums.length J)/\w'.cell? ⟨wr.heap.size,0,none⟩=some (.int .i64 s.code)/\w'.cell? ⟨wr.heap.size,1,none⟩=some (.int .i64 s.dst)/\w'.cell? ⟨wr.heap.size,2,none⟩=some (.int .i64 s.a)/\w'.cell? ⟨wr.heap.size,3,none⟩=some (.int .i64 s.b)/\w'.cell? ⟨wr.heap.size,4,none⟩=some (.int .i64 s.c)) (first|exact dc|exact cq|go_keep)
      ((first|(go_at_call 83;refine bn.mono ?_;rintro e w3 ⟨rfl,aw⟩;obtain ⟨cq,au⟩:=bg.out w3 aw)|(go_at_call 82;refine au.mono ?_;rintro e w4 ⟨rfl,aa,ak,dc⟩)))
     all_goals
      go_wp2_with fail
      go_roundw
      case rel=>exact ⟨k+1,by omega,by go_num,by rw[iZ,<-HX.out];exact aa,ak⟩
      case measure=>simp[intOf];omega
    ·obtain rfl:k=n.code.length:=by omega
     have c3:wr.cell? ⟨r,3,none⟩=some (.slice aj n.outs.length ae):=by rw[aY SB.out,aF HM.out];rfl
     have ab:=qW n.nums n.code V1 n.code.length
     obtain ⟨Z,bj⟩:=gQx (iZ n.nums n.code V1 n.code.length)
     rw[<-bj] at ab l
     have bh:Hid (Z=ran n V ins):=by unfold Hid ran;rw[bj,ch.out]
     have cz:Hid (Z.length=V.length):=ab.trans ca.out
     have am:Hid (Own wr (.slice u V.length j) Z g):=l
     clear bj ab l hlt hk ch ca
     obtain ⟨i0,hi,cw,df,da⟩:=aZ1 Tryz.infoI64
     go_wp2
     go_loopw [10,69] (fun v i wr=>∃k:Nat,k≤n.outs.length/\i=.int .i64 k/\wr.ownsRow W.heap.size 2 1 v k (((n.outs.take k).map (get Z)).map (Value.int .i64))/\Own wr (.slice u V.length j) Z g/\Fr W.heap.size [g] W wr) (fun _ i _=>n.outs.length-(intOf i).toNat)
     case atStart=>exact ⟨0,aP6 _,rfl,aY7 _ _ _ _,am.out,HF.out⟩
     case round=>
      clear c3 c0 sl SB SK am HF
      obtain ⟨k,hk,rfl,Q,l,hF⟩:=hrel
      obtain ⟨sb,c0,sk,sl⟩:=bo.out wr hF
      have HF:Hid (Fr W.heap.size [g] W wr):=hF
      have SB:Hid (wr.heap[r]?=w.heap[r]?):=sb
      have SK:Hid (bB (· < B) (· < B) w wr):=sk
      clear hF sb sk
      have c7:wr.cell? ⟨r,7,none⟩=some (.slice u V.length j):=by rw[aY SB.out,aF HM.out];rfl
      by_cases hlt:k<n.outs.length
      ·have ba:=Q7 aj bO ac n.outs.length ae k hlt (fun h=>(bc.out.1 h).1)
       obtain ⟨x,hx⟩:=gQx (n.outs.getD k 0)
       have cx:wr.cell? ⟨bO,ac+k,none⟩=some (.int .i64 x):=by
        have:=bc.out.2 k hlt
        rw[aY (SK.out bO (bc.out.1 (by omega)).2 (cC this)).2,hx];exact this
       have bz:=xI w.heap.size r (.slice u V.length j) Z g x wr c0 c7 l
       have HX:Hid ((n.outs.take (k+1)).map (get Z)=(n.outs.take k).map (get Z)++[get Z x]):=by unfold Hid;rw[hx,bh.out];exact Oy n V ins k hlt
       have bq:Hid (W.heap.size≤wr.heap.size):=HF.out.size
       have dh:Hid (Own wr (.slice u V.length j) Z g):=l
       clear hx l c7
       go_wp2_with (first|(go_at_call 80;refine bz.mono ?_;rintro e w' ⟨rfl,cv⟩;obtain rfl:=cv.symm)|(at_builtin;refine wpList_append_own _ rfl (.tmp 73) (.tmp 77) 22 rfl W.heap.size 2 i0 (.int .i64 0) 1 8 Tryz.underlying22 hi cw df da rfl (by decide) _ _ _ rfl (Q.alloc _) ⟨wr.heap.size,0,none⟩ 1 1 [.int .i64 (get Z x)] rfl rfl (aO2 _ _ _) (ints_oneCell .i64 [get Z x]) (by unfold maxLen;omega) (by omega) (by have:=bq.out;simp;omega) ?_;intro v' w1 bf D _))
       go_roundw
       case rel=>
        have hs:=HS.out
        have hG:=HG.out
        have cy:=bq.out
        refine ⟨k+1,by omega,by go_num,by rw[HX.out,List.map_append];exact bf,dh.out.keep ?_,(HF.out.alloc cy _).trans ⟨D.os,D.tape,D.output,D.size,fun b hb _=>D.block b (by simp;omega) (fun e=>by have:=(Q.lt b e.symm).1;omega)⟩⟩
        rw[D.block g (by simp;omega) (fun e=>by have:=(Q.lt g e.symm).1;omega)]
        exact Below.heap_alloc _ _ _ (by omega)
       case measure=>simp[intOf];omega
      ·obtain rfl:k=n.outs.length:=by omega
       rw[aX7] at Q
       have cp:=Gd (A:=(· < B)) n.places vF _ _ vK _ _ _ n.keeps Z r g wr (SB.out.trans HM.out) (HK.out.carry SK.out) l (fun _=>Nat.lt_trans HG.out sl) (by have:=cz.out;omega) ct
       have cf:Hid (∃gr,Own wr u10 (tells n V ins) gr/\W.heap.size≤gr/\(0<n.outs.length->gr<wr.heap.size)/\(tells n V ins).length=n.outs.length):=by
        have e:tells n V ins=n.outs.map (get Z):=by unfold tells;rw[bh.out]
        rw[e];exact rV Q
       clear l Q c7
       go_wp2_with (go_at_call 84;refine cp.mono ?_;rintro e w4 ⟨rfl,de,co,aa,ak,ax⟩)
       go_ret
       obtain ⟨gr,hr,dn,al,-⟩:=cf.out
       have hs:=HS.out
       have hG:=HG.out
       have O:bB (· < B) (· < B) w w4:=fun b hb hl=>⟨hb,by rw[ak.block b (by omega) (by simp;omega)];exact (SK.out b hb hl).2⟩
       refine ⟨_,wr.heap.size,rfl,⟨⟨vF,_,_,vK,_,_,de,co,HI.out.carry O,HO.out.carry O,HK.out.carry O,HN.out.carry O,HC.out.carry O,?_⟩,dd,by omega,by omega,ax⟩,?_,?_,by omega,ax⟩
       ·unfold after;rw[<-bh.out];exact aa
       ·have h0:=uM n V ins
        by_cases hp:0<n.outs.length
        ·exact (hr.keep (ak.block gr (al hp) (by simp;omega))).ints (fun _=>⟨by omega,al hp⟩)
        ·obtain ⟨ad,cap,e,_⟩:=hr
         exact ⟨ad,0,0,cap,e,fun h=>by omega,fun k hk=>by omega⟩
       ·have h1:Fr w.heap.size [r,g] w wr:=((ai.out.mono (aO4 _) (fun y hy _=>by simp at hy)).trans (HF.out.mono (by omega) (fun y hy _=>by simp at hy;simp[hy])))
        exact h1.trans (ak.mono (by omega) (fun y hy _=>by simp at hy;simp[hy]))
end Nx
end
section
namespace Nx
open Go.Lib
theorem Az (s:List Int) (j:Nat) (h:j<s.length):keeps s.toArray j=true↔(j=0\/s[j]≠s[j-1]):=by
 unfold keeps
 have c:s.toArray[j]! = s[j]:=by simp[h]
 have k:s.toArray[j-1]! = s[j-1]:=by
  have:j-1<s.length:=by omega
  simp[this]
 rw[c,k]
 simp
theorem U7 (s:List Int):(Lib.compact s).length<s.length↔∃j,j<s.length/\keeps s.toArray j=false:=by
 have e:(Lib.compact s).length=((List.range s.length).filter (keeps s.toArray)).length:=by unfold Lib.compact compactUpTo;simp
 rw[e]
 have r:((List.range s.length).filter (keeps s.toArray)).length≤(List.range s.length).length:=List.length_filter_le _ _
 rw[List.length_range] at r
 constructor
 ·intro h
  apply Classical.byContradiction
  intro y
  have:(List.range s.length).filter (keeps s.toArray)=List.range s.length:=List.filter_eq_self.2 fun j l=>by
   have k:=List.mem_range.1 l
   cases c:keeps s.toArray j with
   | true=>rfl
   | false=>exact absurd ⟨j,k,c⟩ y
  rw[this,List.length_range] at h
  omega
 ·rintro ⟨j,l,c⟩
  rcases aY1 ((List.range s.length).filter (keeps s.toArray)).length s.length with h|h
  ·exact h
  ·have u:((List.range s.length).filter (keeps s.toArray)).length=(List.range s.length).length:=by rw[List.length_range];omega
   have n:=List.length_filter_eq_length_iff.1 u j (List.mem_range.2 l)
   rw[c] at n;cases n
theorem Du (s:List Int) (J:s.Pairwise (·≤·)):(Lib.compact s).length<s.length↔¬s.Nodup:=by
 rw[U7]
 constructor
 ·rintro ⟨j,c,k⟩ u
  have y:¬(j=0\/s[j]≠s[j-1]):=fun h=>by rw[(Az s j c).2 h] at k;cases k
  have I:j≠0:=fun h=>y (.inl h)
  have e:s[j]=s[j-1]:=Classical.byContradiction fun h=>y (.inr h)
  exact (List.pairwise_iff_getElem.1 u) (j-1) j (by omega) c (by omega) e.symm
 ·intro u
  apply Classical.byContradiction
  intro r
  have l:∀j (c:j<s.length),0<j->s[j]≠s[j-1]:=fun j c I=>by
   have k:keeps s.toArray j=true:=by
    cases k:keeps s.toArray j with
    | true=>rfl
    | false=>exact absurd ⟨j,c,k⟩ r
   rcases (Az s j c).1 k with h|h
   ·omega
   ·exact h
  apply u
  apply List.pairwise_iff_getElem.2
  intro i j Q c O e
  have n:=List.pairwise_iff_getElem.1 J
  have y:s[j-1]≤s[j]:=n (j-1) j (by omega) c (by omega)
  have D:=l j c (by omega)
  by_cases hc:i=j-1
  ·subst hc;exact D e.symm
  ·have U:s[i]≤s[j-1]:=n i (j-1) Q (by omega) (by omega)
   have:s[j]=s[j-1]:=by omega
   exact D this
theorem Yi (zs:List Int):(Lib.compact (zs.mergeSort fun x y=>decide (x≤y))).length<zs.length↔¬zs.Nodup:=by
 have j:=List.mergeSort_perm zs (fun x y=>decide (x≤y))
 have k:(zs.mergeSort fun x y=>decide (x≤y)).Pairwise (·≤·):=by
  have:=List.pairwise_mergeSort (le:=fun x y:Int=>decide (x≤y)) (fun a b c n l=>by simp at *;omega) (fun a b=>by simp;omega) zs
  exact this.imp fun h=>by simpa using h
 have h:=Du _ k
 rw[j.length_eq,j.nodup_iff] at h
 exact h
end Nx
end
end Go.Proofs.YthieaobjdpfcoaaGreatDoor
namespace Go.Proofs
open Tryz (prog)
open Go.Shelf
def Tryz.lays189_ren:Go.Shelf.Ren:=⟨fun|189=>54|125=>88|257=>87|128=>135|129=>136|294=>126|295=>127|296=>128|297=>129|298=>130|299=>131|216=>132|300=>133|301=>134|328=>177|329=>178|330=>179|331=>180|332=>181|215=>182|343=>217|n=>n,fun|28=>23|3=>3|46=>154|0=>0|51=>206|53=>208|4=>4|183=>199|182=>198|131=>114|5=>5|9=>9|218=>248|222=>113|228=>287|229=>162|n=>n,fun|n=>n⟩
theorem Tryz.lays189:Go.Proofs.Lays.n189 prog Tryz.lays189_ren:={
 mixed:=by kernel_rfl
 f125:=Tryz.func88.trans (congrArg some (by kernel_rfl))
 f128:=Tryz.func135.trans (congrArg some (by kernel_rfl))
 f129:=Tryz.func136.trans (congrArg some (by kernel_rfl))
 f189:=Tryz.func54.trans (congrArg some (by kernel_rfl))
 f215:=Tryz.func182.trans (congrArg some (by kernel_rfl))
 f216:=Tryz.func132.trans (congrArg some (by kernel_rfl))
 f257:=Tryz.func87.trans (congrArg some (by kernel_rfl))
 f294:=Tryz.func126.trans (congrArg some (by kernel_rfl))
 f295:=Tryz.func127.trans (congrArg some (by kernel_rfl))
 f296:=Tryz.func128.trans (congrArg some (by kernel_rfl))
 f297:=Tryz.func129.trans (congrArg some (by kernel_rfl))
 f298:=Tryz.func130.trans (congrArg some (by kernel_rfl))
 f299:=Tryz.func131.trans (congrArg some (by kernel_rfl))
 f300:=Tryz.func133.trans (congrArg some (by kernel_rfl))
 f301:=Tryz.func134.trans (congrArg some (by kernel_rfl))
 f328:=Tryz.func177.trans (congrArg some (by kernel_rfl))
 f329:=Tryz.func178.trans (congrArg some (by kernel_rfl))
 f330:=Tryz.func179.trans (congrArg some (by kernel_rfl))
 f331:=Tryz.func180.trans (congrArg some (by kernel_rfl))
 f332:=Tryz.func181.trans (congrArg some (by kernel_rfl))
 f343:=Tryz.func217.trans (congrArg some (by kernel_rfl))
 t0:=Tryz.underlying0
 a0:=Tryz.isAgg0
 z0:=Tryz.sizeOf0
 v0:=Tryz.zeroValue0
 t3:=Tryz.underlying3
 a3:=Tryz.isAgg3
 z3:=Tryz.sizeOf3
 v3:=Tryz.zeroValue3
 t4:=Tryz.underlying4
 a4:=Tryz.isAgg4
 z4:=Tryz.sizeOf4
 v4:=Tryz.zeroValue4
 t5:=Tryz.underlying5
 a5:=Tryz.isAgg5
 z5:=Tryz.sizeOf5
 v5:=Tryz.zeroValue5
 t9:=Tryz.underlying9
 a9:=Tryz.isAgg9
 z9:=Tryz.sizeOf9
 v9:=Tryz.zeroValue9
 t28:=Tryz.underlying23
 a28:=Tryz.isAgg23
 z28:=Tryz.sizeOf23
 v28:=Tryz.zeroValue23
 t46:=Tryz.underlying154
 a46:=Tryz.isAgg154
 z46:=Tryz.sizeOf154
 v46:=Tryz.zeroValue154
 t51:=Tryz.underlying206
 a51:=Tryz.isAgg206
 z51:=Tryz.sizeOf206
 v51:=Tryz.zeroValue206
 t53:=Tryz.underlying208
 a53:=Tryz.isAgg208
 z53:=Tryz.sizeOf208
 v53:=Tryz.zeroValue208
 t131:=Tryz.underlying114
 a131:=Tryz.isAgg114
 z131:=Tryz.sizeOf114
 v131:=Tryz.zeroValue114
 t182:=Tryz.underlying198
 a182:=Tryz.isAgg198
 z182:=Tryz.sizeOf198
 v182:=Tryz.zeroValue198
 t183:=Tryz.underlying199
 a183:=Tryz.isAgg199
 z183:=Tryz.sizeOf199
 v183:=Tryz.zeroValue199
 t218:=Tryz.underlying248
 a218:=Tryz.isAgg248
 z218:=Tryz.sizeOf248
 v218:=Tryz.zeroValue248
 t222:=Tryz.underlying113
 a222:=Tryz.isAgg113
 z222:=Tryz.sizeOf113
 v222:=Tryz.zeroValue113
 t228:=Tryz.underlying287
 a228:=Tryz.isAgg287
 z228:=Tryz.sizeOf287
 v228:=Tryz.zeroValue287
 t229:=Tryz.underlying162
 a229:=Tryz.isAgg162
 z229:=Tryz.sizeOf162
 v229:=Tryz.zeroValue162 }
open Go.Sort Go.RowKit in
theorem Tryz.slices_Sort_int (blk off cap:Nat) (zs:List Int) (w:World) (hH:Holds (Value.int .i64) w blk off zs.toArray) (hblk:blk<w.heap.size) (hsz:zs.length<4611686018427387904) :
 Calls prog 54 #[.slice (some ⟨blk,off,none⟩) zs.length cap] w fun e w'=>
     e=.returned (.tuple #[])/\∃n os,w'=grow (putRow (Value.int .i64) (Sort.ahead w n) blk off (zs.mergeSort fun x y=>decide (x≤y)).toArray) os:=Any.slices_Sort_int Tryz.lays189 blk off cap zs w hH hblk hsz
def Tryz.laysNm215_ren:Go.Shelf.Ren:=⟨fun|15=>25|n=>n,fun|22=>23|3=>3|4=>4|n=>n,fun|n=>n⟩
theorem Tryz.laysNm215:Go.Proofs.Lays2.n15 prog Tryz.laysNm215_ren:={
 mixed:=by kernel_rfl
 f15:=Tryz.func25.trans (congrArg some (by kernel_rfl))
 t3:=Tryz.underlying3
 a3:=Tryz.isAgg3
 z3:=Tryz.sizeOf3
 v3:=Tryz.zeroValue3
 t4:=Tryz.underlying4
 a4:=Tryz.isAgg4
 z4:=Tryz.sizeOf4
 v4:=Tryz.zeroValue4
 t22:=Tryz.underlying23
 a22:=Tryz.isAgg23
 z22:=Tryz.sizeOf23
 v22:=Tryz.zeroValue23
 i3:=by kernel_rfl }
open Go.RowKit Go.Lib in
theorem Tryz.slices_Clone_int (b off n c:Nat) (zs:List Int) (w:World) (hz:n≤zs.length) (hbig:n*8≤140737488355328) (hc:∀j,j<zs.length->w.cell? ⟨b,off+j,none⟩=some (.int .i64 (zs.getD j 0))) :
 Calls prog 25 #[.slice (some ⟨b,off,none⟩) n c] w fun e w'=>∃v',e=.returned v'/\w'.ownsRow w.heap.size 3 1 v' n ((zs.take n).map (Value.int .i64))/\v'≠.slice none 0 0/\Below w.heap.size w w':=Any.slices_Clone_int Tryz.laysNm215 b off n c zs w hz hbig hc
open Go.RowKit Go.Lib in
theorem Tryz.slices_Clone_int_nil (n c:Nat) (w:World) :
 Calls prog 25 #[.slice none n c] w fun e w'=>e=.returned (.slice none 0 0)/\w'=w:=Any.slices_Clone_int_nil Tryz.laysNm215 n c w
open Go.RowKit Go.Lib in
theorem Tryz.slices_Clone_int_zero (a:Addr) (c:Nat) (w:World) :
 Calls prog 25 #[.slice (some a) 0 c] w fun e w'=>∃v',e=.returned v'/\w'.ownsRow w.heap.size 3 1 v' 0 []/\v'≠.slice none 0 0/\Below w.heap.size w w':=Any.slices_Clone_int_zero Tryz.laysNm215 a c w
def Tryz.laysNm220_ren:Go.Shelf.Ren:=⟨fun|20=>93|n=>n,fun|22=>23|3=>3|4=>4|0=>0|n=>n,fun|n=>n⟩
theorem Tryz.laysNm220:Go.Proofs.Lays2.n20 prog Tryz.laysNm220_ren:={
 mixed:=by kernel_rfl
 f20:=Tryz.func93.trans (congrArg some (by kernel_rfl))
 t0:=Tryz.underlying0
 a0:=Tryz.isAgg0
 z0:=Tryz.sizeOf0
 v0:=Tryz.zeroValue0
 t3:=Tryz.underlying3
 a3:=Tryz.isAgg3
 z3:=Tryz.sizeOf3
 v3:=Tryz.zeroValue3
 t4:=Tryz.underlying4
 a4:=Tryz.isAgg4
 z4:=Tryz.sizeOf4
 v4:=Tryz.zeroValue4
 t22:=Tryz.underlying23
 a22:=Tryz.isAgg23
 z22:=Tryz.sizeOf23
 v22:=Tryz.zeroValue23
 i3:=by kernel_rfl }
open Go.RowKit Go.Lib Go.Sort in
theorem Tryz.slices_Compact_int (blk off cap:Nat) (zs:List Int) (w:World) (hH:Holds (Value.int .i64) w blk off zs.toArray) (hsz:zs.length≤9223372036854775807) (hcap:zs.length≤cap) :
 Calls prog 93 #[.slice (some ⟨blk,off,none⟩) zs.length cap] w fun e w'=>e=.returned (.slice (some ⟨blk,off,none⟩) (Lib.compact zs).length cap)/\∃q,w'=putRow (Value.int .i64) (Sort.ahead w q) blk off (Lib.compact zs++List.replicate (zs.length-(Lib.compact zs).length) 0).toArray:=Any.slices_Compact_int Tryz.laysNm220 blk off cap zs w hH hsz hcap
open Go.RowKit Go.Lib Go.Sort in
theorem Tryz.slices_Compact_int_empty (a:Option Addr) (cap:Nat) (w:World) :
 Calls prog 93 #[.slice a 0 cap] w fun e w'=>e=.returned (.slice a 0 cap)/\w'=w:=Any.slices_Compact_int_empty Tryz.laysNm220 a cap w
open Go.RowKit Go.Sort in
theorem Tryz.slices_Sort_int_none (p:Option Addr) (cap:Nat) (w:World) :
 Calls prog 54 #[.slice p 0 cap] w fun e w'=>e=.returned (.tuple #[])/\w'=w:=Any.slices_Sort_int_none Tryz.lays189 p cap w
end Go.Proofs
namespace Go.Proofs.YthieaobjdpfcoaaGreatDoor
open Go.Proofs.Tryz (prog)
section
open Go.RowKit Go.Sort
namespace Nx
theorem Tw (n c:Nat) (w:World):(binOp BinOp.eql 22 (.slice none n c) (.slice none 0 0)).run prog w=.ok (.bool true) w:=by kernel_rfl
theorem Lj (a:Addr) (n c:Nat) (w:World):(binOp BinOp.eql 22 (.slice (some a) n c) (.slice none 0 0)).run prog w=.ok (.bool false) w:=by kernel_rfl
theorem Nb (n c:Nat) (w:World):Calls prog 24 #[.slice none n c] w fun e w'=>e=.returned (.slice none 0 0)/\w'=w:=by
 have h:=Tw
 go_enter Tryz.func24,Tryz.ntmps24
 go_wp2
 go_ret
 exact ⟨rfl,rfl⟩
theorem Gi (a0:Addr) (n c:Nat) (zs:List Int) (w:World) (Z:zs.length=n) (Q:n≤100000) (X:∀j u,(zs.map (Value.int .i64))[j]?=some u->w.cell? (a0.add j)=some u) :
 Calls prog 24 #[.slice (some a0) n c] w fun e w'=>∃v',e=.returned v'/\w'.ownsRow w.heap.size 2 1 v' n (zs.map (Value.int .i64))/\Below w.heap.size w w':=by
 have q0:=Lj
 have l:(w.alloc (.cells #[] 2)).ownsRow w.heap.size 2 1 (.slice (some ⟨w.heap.size,0,none⟩) 0 0) 0 []:=
  ⟨rfl,.inr ⟨w.heap.size,0,#[],rfl,aO4 _,heap_alloc_new w _,aO4 _,aP6 _,rfl,rfl⟩⟩
 have D:∀j u,(zs.map (Value.int .i64))[j]?=some u->(w.alloc (.cells #[] 2)).cell? (a0.add j)=some u:=fun j u I=>by
  have U:=X j u I
  exact (aY6 (Below.heap_alloc _ _ _ (aY5 _ _ U))).trans U
 have J:(zs.map (Value.int .i64)).length=n*1:=by simp[Z]
 clear X
 obtain ⟨i0,Y,y,O,s⟩:=aZ1 Tryz.infoI64
 go_enter Tryz.func24,Tryz.ntmps24
 go_wp2_with (at_builtin;refine wpList_append_own _ rfl (.tmp 5) (.tmp 6) 22 rfl w.heap.size 2 i0 (.int .i64 0) 1 8 Tryz.underlying22 Y y O s rfl (by decide) _ _ _ rfl l a0 n c (zs.map (Value.int .i64)) rfl J D (ints_oneCell .i64 zs) (by unfold maxLen;omega) (by omega) (by simp) ?_;intro v' w1 h k _)
 go_ret
 refine ⟨_,rfl,by rw[aX3,List.nil_append] at h;exact h,?_⟩
 have r:Below w.heap.size w (w.alloc (.cells #[] 2)):=aE w _
 exact r.grown k r.size (fun j I=>by cases I;exact aO4 _)
theorem Iv {A:Nat->Prop}(v:Value) (zs:List Int) (w:World) (h:bH A w v zs) (l:zs.length≤100000) :
 Calls prog 24 #[v] w fun e w'=>∃v',e=.returned v'/\w'.ownsRow w.heap.size 2 1 v' zs.length (zs.map (Value.int .i64))/\Below w.heap.size w w':=by
 obtain ⟨J,b,c,cap,rfl,s,y⟩:=h
 cases J with
 | none=>
  have D:zs=[]:=by
   cases zs with
   | nil=>rfl
   | cons x r=>have:=(s (by simp)).1;cases this
  subst D
  refine (Nb _ _ w).mono fun e w' ⟨he,hw⟩=>⟨_,he,?_,by rw[hw];exact Below.refl _ _⟩
  exact aY7 _ _ _ _
 | some a0=>
  refine Gi a0 zs.length cap zs w rfl l fun j u n=>?_
  have k:j<zs.length:=by have:=(aO7.1 n).1;simpa using this
  have e:=(s (by omega)).1
  obtain rfl:a0=⟨b,c,none⟩:=Option.some.inj e
  have I:=y j k
  rw[show (⟨b,c,none⟩:Addr).add j=⟨b,c+j,none⟩ by simp[Addr.add],I,<-n]
  simp[List.getD_eq_getElem?_getD,k]
theorem Uh {A:Nat->Prop}(v:Value) (zs:List Int) (w:World) (h:bH A w v zs) (j:zs.length≤100000) (k:0<zs.length) :
 Calls prog 25 #[v] w fun e w'=>∃v',e=.returned v'/\w'.ownsRow w.heap.size 3 1 v' zs.length (zs.map (Value.int .i64))/\v'≠.slice none 0 0/\Below w.heap.size w w':=by
 obtain ⟨r,b,c,cap,rfl,n,l⟩:=h
 obtain ⟨rfl,_⟩:=n k
 have:=Tryz.slices_Clone_int b c zs.length cap zs w (aO4 _) (by omega) l
 rw[aX7] at this
 exact this
theorem Dl (ad:Option Addr) (c:Nat) (w:World):Calls prog 74 #[.slice ad 0 c] w fun e w'=>e=.returned (.bool false)/\Below w.heap.size w w':=by
 have l:Calls prog 25 #[.slice ad 0 c] w fun e w'=>∃p h,e=.returned (.slice p 0 h)/\Below w.heap.size w w':=by
  cases ad with
  | none=>exact (Tryz.slices_Clone_int_nil 0 c w).mono fun e w' ⟨he,hw⟩=>⟨_,_,he,by rw[hw];exact Below.refl _ _⟩
  | some a=>
   refine (Tryz.slices_Clone_int_zero a c w).mono fun e w' ⟨v',he,ho,_,hb⟩=>?_
   rcases ho.2 with ⟨rfl,_⟩|⟨g,cap,n,rfl,_⟩
   ·exact ⟨_,_,he,hb⟩
   ·exact ⟨_,_,he,hb⟩
 have r:=fun p h w1=>Tryz.slices_Sort_int_none p h w1
 have s:=fun p h w1=>Tryz.slices_Compact_int_empty p h w1
 go_enter Tryz.func74,Tryz.ntmps74
 go_wp2_with (first|(go_at_call 25;refine l.mono ?_;rintro e w1 ⟨p,h,rfl,hb⟩)|(go_at_call 54;refine (r _ _ _).mono ?_;rintro e w2 ⟨rfl,k⟩;obtain rfl:=k.symm)|(go_at_call 93;refine (s _ _ _).mono ?_;rintro e w3 ⟨rfl,j⟩;obtain rfl:=j.symm))
 go_ret
 exact ⟨rfl,hb⟩
theorem Zh (g n cap:Nat) (zs ss:List Int) (w:World) (h:Holds (Value.int .i64) w g 0 zs.toArray) (c:g<w.heap.size) (k:zs.length=n) (hb:n≤100000) (j:ss=zs.mergeSort fun x y=>decide (x≤y)) :
 Calls prog 54 #[.slice (some ⟨g,0,none⟩) n cap] w fun e w2=>e=.returned (.tuple #[])/\Hid (Holds (Value.int .i64) w2 g 0 ss.toArray/\w.grownBy w2 (some g)):=by
 subst j k
 refine (Tryz.slices_Sort_int g 0 cap zs w h c (by omega)).mono fun e w2 ⟨he,nn,os,hw2⟩=>⟨he,?_,?_⟩
 ·rw[hw2]
  exact holds_grow (Value.int .i64) _ os g 0 _ (by simpa [putRow,mapBlock,Sort.ahead] using c) (holds_putRow (Value.int .i64) _ g 0 _ _ (holds_ahead (Value.int .i64) w nn g 0 _ h) (by simp))
 ·rw[hw2];exact grownBy_sortedI _
theorem aM2 (g n cap cl:Nat) (ss:List Int) (w:World) (k:Holds (Value.int .i64) w g 0 ss.toArray) (r:ss.length=n) (hb:n≤100000) (c:n≤cap) (h:cl=(Lib.compact ss).length) :
 Calls prog 93 #[.slice (some ⟨g,0,none⟩) n cap] w fun e w3=>e=.returned (.slice (some ⟨g,0,none⟩) cl cap)/\Hid (∀B w0,Below B w0 w->B≤g->Below B w0 w3):=by
 subst h r
 refine (Tryz.slices_Compact_int g 0 cap ss w k (by omega) c).mono fun e w3 ⟨he,q,hw3⟩=>⟨he,fun B w0 l j=>?_⟩
 rw[hw3];exact Lib.below_putRow l j
theorem Dk {A:Nat->Prop}(v:Value) (zs:List Int) (w:World) (h:bH A w v zs) (D:zs.length≤100000) (hp:0<zs.length) :
 Calls prog 74 #[v] w fun e w'=>e=.returned (.bool (decide (¬zs.Nodup)))/\Below w.heap.size w w':=by
 have k:=Uh v zs w h D hp
 obtain ⟨ad,b,af,Q,rfl,-,-⟩:=h
 obtain ⟨ss,s⟩:=gQx (zs.mergeSort fun x y=>decide (x≤y))
 obtain ⟨cl,r⟩:=gQx ((Lib.compact ss).length)
 have HD:Hid (decide (cl<zs.length)=decide (¬zs.Nodup)):=by
  unfold Hid
  have:=Yi zs
  rw[<-s,<-r] at this
  by_cases u:zs.Nodup
  ·rw[decide_eq_false (fun h=>this.1 h u),decide_eq_false (by simpa using u)]
  ·have:=this.2 u
   rw[decide_eq_true this,decide_eq_true u]
 obtain ⟨n,u⟩:=gQx zs.length
 have HL:Hid (ss.length=n):=by unfold Hid;rw[s,List.length_mergeSort];exact u.symm
 rw[<-u] at k HD ⊢
 have HN:Hid (zs.length=n):=u.symm
 have O:n≤100000:=by omega
 have U:Hid (ss=zs.mergeSort fun x y=>decide (x≤y)):=s
 have ab:Hid (cl=(Lib.compact ss).length):=r
 have c:Hid (Calls prog 25 #[.slice ad n Q] w fun e w'=>∃g cap,e=.returned (.slice (some ⟨g,0,none⟩) n cap)/\Hid (Holds (Value.int .i64) w' g 0 zs.toArray/\w.heap.size≤g/\g<w'.heap.size/\n≤cap/\Below w.heap.size w w')):=by
  refine k.mono fun e w1 ⟨v1,he,hown,hnn,hbel⟩=>?_
  obtain ⟨g,cap,rfl,aa,ac,I,ae,hlen,hH⟩:=Lib.holds_of_ownsRow hown hnn
  exact ⟨g,cap,he,hH,aa,ac,I,hbel⟩
 clear u hp D s r k
 have k:=c.out
 clear c
 go_enter Tryz.func74,Tryz.ntmps74
 go_wp2_with (first
  | (go_at_call 25;refine k.mono ?_;rintro e w1 ⟨g,cap,rfl,X⟩
     have l:=Zh g n cap zs ss w1 X.out.1 X.out.2.2.1 HN.out O U.out
     clear k)
  | (go_at_call 54;refine l.mono ?_;rintro e w2 ⟨rfl,Y⟩
     have J:=aM2 g n cap cl ss w2 Y.out.1 HL.out O X.out.2.2.2.1 ab.out
     clear l)
  | (go_at_call 93;refine J.mono ?_;rintro e w3 ⟨rfl,Z⟩))
 go_ret
 refine ⟨by rw[<-HD.out];rfl,?_⟩
 exact Z.out _ _ (X.out.2.2.2.2.grown Y.out.2 X.out.2.2.2.2.size (fun j hj=>by cases hj;exact X.out.2.1)) X.out.2.1
theorem C5 {A:Nat->Prop}(v:Value) (zs:List Int) (w:World) (h:bH A w v zs) (c:zs.length≤100000) :
 Calls prog 74 #[v] w fun e w'=>e=.returned (.bool (decide (¬zs.Nodup)))/\Below w.heap.size w w':=by
 by_cases hp:0<zs.length
 ·exact Dk v zs w h c hp
 ·obtain rfl:zs=[]:=aR5.1 (by omega)
  obtain ⟨k,b,j,cap,rfl,-,-⟩:=h
  have e:decide (¬([]:List Int).Nodup)=false:=by simp
  rw[e]
  exact Dl k cap w
end Nx
end
section
open Go.RowKit
namespace Nx
theorem tK (p P:Int) (c:Nat) (w:World) (j:w.cell? ⟨c,0,none⟩=some (.int .i64 P)) :
 Calls prog 39 #[.int .i64 p,.pointer (some ⟨c,0,none⟩)] w fun e w'=>e=.returned (.bool (cR P p))/\w'=w:=by
 by_cases h0:0≤p
 ·have E:Hid (cR P p=decide (p<P)):=by unfold Hid cR;simp[h0]
  go_enter Tryz.func39,Tryz.ntmps39
  go_wp2
  go_ret
  exact ⟨by rw[E.out];rfl,rfl⟩
 ·have E:Hid (cR P p=false):=by unfold Hid cR;simp[h0]
  have h:p<0:=by omega
  go_enter Tryz.func39,Tryz.ntmps39
  go_wp2
  go_ret
  exact ⟨by rw[E.out];rfl,rfl⟩
theorem Li (p P:Int) (c j:Nat) (w:World) (l:w.cell? ⟨c,0,none⟩=some (.int .i64 P)) (n:w.cell? ⟨j,0,none⟩=some (.func (.func 39) #[] #[.pointer (some ⟨c,0,none⟩)])) :
 Calls prog 121 #[.int .i64 p,.pointer (some ⟨j,0,none⟩)] w fun e w'=>e=.returned (.bool (!cR P p))/\w'=w:=by
 have h:=tK p P c w l
 obtain ⟨b,hb⟩:=gQx (cR P p)
 rw[<-hb] at h ⊢
 clear hb
 go_enter Tryz.func121,Tryz.ntmps121
 go_wp2_with (go_at_call 39;refine h.mono ?_;rintro e w' ⟨rfl,k⟩;obtain rfl:=k.symm)
 go_ret
 exact ⟨rfl,rfl⟩
theorem qQ {A:Nat->Prop}(v:Value) (zs:List Int) (P:Int) (u D:Nat) (w:World) (h:bH A w v zs) (Q:zs.length≤100000) (Z:w.cell? ⟨u,0,none⟩=some (.int .i64 P)) (U:w.cell? ⟨D,0,none⟩=some (.func (.func 39) #[] #[.pointer (some ⟨u,0,none⟩)])) :
 Calls prog 122 #[v,.func (.func 121) #[] #[.pointer (some ⟨D,0,none⟩)]] w fun e w'=>∃r:Int,e=.returned (.int .i64 r)/\decide (0≤r)=!zs.all (cR P)/\w'=w:=by
 obtain ⟨ad,b,l,cap,rfl,X,O⟩:=h
 have H1:Hid (0<zs.length->ad=some ⟨b,l,none⟩/\A b):=X
 have H2:Hid _:=O
 have hN:=fun p=>Li p P u D w Z U
 clear X O Z U
 go_enter Tryz.func122,Tryz.ntmps122
 go_wp2
 go_loop [8] (fun i=>∃k:Nat,k≤zs.length/\i=.int .i64 k/\∀j,j<k->cR P (zs.getD j 0)=true) (fun i=>zs.length-(intOf i).toNat)
 case atStart=>exact ⟨0,aP6 _,rfl,fun j J=>by omega⟩
 case round=>
  obtain ⟨k,hk,rfl,c⟩:=hrel
  have Y:Hid _:=c
  clear c
  by_cases hlt:k<zs.length
  ·have aa:=Q7 ad b l zs.length cap k hlt (fun h=>(H1.out h).1)
   obtain ⟨x,hx⟩:=gQx (zs.getD k 0)
   have cx:w.cell? ⟨b,l+k,none⟩=some (.int .i64 x):=by rw[hx];exact H2.out k hlt
   have HX:Hid _:=hx
   clear hx
   have n:=hN x
   cases hb:cR P x with
   | true=>
    rw[hb] at n
    have I:Hid _:=hb
    clear hb
    go_wp2_with (go_at_call 121;refine n.mono ?_;rintro e w' ⟨rfl,s⟩;obtain rfl:=s.symm)
    go_round
    case rel=>exact ⟨k+1,by omega,by go_num,fun j J=>by
     by_cases e:j=k
     ·rw[e,<-HX.out];exact I.out
     ·exact Y.out j (by omega)⟩
    case measure=>simp[intOf];omega
   | false=>
    rw[hb] at n
    have I:Hid _:=hb
    clear hb
    go_wp2_with (go_at_call 121;refine n.mono ?_;rintro e w' ⟨rfl,s⟩;obtain rfl:=s.symm)
    go_ret
    refine ⟨k,rfl,?_,rfl⟩
    have:zs.all (cR P)=false:=by
     apply Bool.eq_false_iff.2
     intro h
     have:=aX8.1 h (zs[k]) (aY3 hlt)
     have e:zs.getD k 0=zs[k]:=by simp[List.getD_eq_getElem?_getD,hlt]
     rw[<-e,<-HX.out,I.out] at this;cases this
    rw[this];simp
  ·go_wp2
   go_ret
   refine ⟨-1,rfl,?_,rfl⟩
   have:zs.all (cR P)=true:=aX8.2 fun y hy=>by
    obtain ⟨j,J,rfl⟩:=List.getElem_of_mem hy
    have:=Y.out j (by omega)
    simpa [iO,J] using this
   rw[this];rfl
theorem U0 {A:Nat->Prop}(v:Value) (zs:List Int) (P:Int) (j k:Nat) (w:World) (h:bH A w v zs) (c:zs.length≤100000) (s:w.cell? ⟨j,0,none⟩=some (.int .i64 P)) (l:w.cell? ⟨k,0,none⟩=some (.func (.func 39) #[] #[.pointer (some ⟨j,0,none⟩)])) :
 Calls prog 120 #[v,.func (.func 121) #[] #[.pointer (some ⟨k,0,none⟩)]] w fun e w'=>e=.returned (.bool (!zs.all (cR P)))/\w'=w:=by
 have y:=qQ v zs P j k w h c s l
 clear h s l
 go_enter Tryz.func120,Tryz.ntmps120
 go_wp2_with (go_at_call 122;refine y.mono ?_;rintro e w' ⟨r,rfl,n,u⟩;obtain rfl:=u.symm;have HR:Hid _:=n;clear n)
 go_ret
 exact ⟨by rw[<-HR.out];rfl,rfl⟩
theorem X7 {A:Nat->Prop}(v:Value) (zs:List Int) (P:Int) (l:Nat) (w:World) (h:bH A w v zs) (k:zs.length≤100000) (r:w.cell? ⟨l,0,none⟩=some (.int .i64 P)) :
 Calls prog 73 #[v,.func (.func 39) #[] #[.pointer (some ⟨l,0,none⟩)]] w fun e w'=>e=.returned (.bool (zs.all (cR P)))/\Below w.heap.size w w':=by
 have c:=U0 v zs P l w.heap.size (w.alloc (.cells #[.func (.func 39) #[] #[.pointer (some ⟨l,0,none⟩)]] 85)) (h.carry fun b u y=>⟨u,Below.heap_alloc _ _ _ y⟩) k (bG (aE w _) r) (by simp)
 obtain ⟨n,j⟩:=gQx (zs.all (cR P))
 rw[<-j] at c ⊢
 clear h r j
 go_enter Tryz.func73,Tryz.ntmps73
 go_wp2_with (go_at_call 120;refine c.mono ?_;rintro e w' ⟨rfl,s⟩;obtain rfl:=s.symm)
 go_ret
 refine ⟨?_,aE w _⟩
 cases n<;>rfl
theorem aL7 (w:World) (a:Int):bH (fun b=>w.heap.size≤b) (w.alloc (.cells #[.int .i64 a] 3)) (.slice (some ⟨w.heap.size,0,none⟩) 1 1) [a]:=
 ⟨_,w.heap.size,0,1,rfl,fun _=>⟨rfl,aO4 _⟩,fun k hk=>by
  match k,hk with
  | 0,_=>simp⟩
theorem aL6 (w:World) (a b:Int):bH (fun b=>w.heap.size≤b) (w.alloc (.cells #[.int .i64 a,.int .i64 b] 3)) (.slice (some ⟨w.heap.size,0,none⟩) 2 2) [a,b]:=
 ⟨_,w.heap.size,0,2,rfl,fun _=>⟨rfl,aO4 _⟩,fun k hk=>by
  match k,hk with
  | 0,_=>simp
  | 1,_=>simp⟩
theorem aL5 (w:World) (a b c:Int):bH (fun b=>w.heap.size≤b) (w.alloc (.cells #[.int .i64 a,.int .i64 b,.int .i64 c] 3)) (.slice (some ⟨w.heap.size,0,none⟩) 3 3) [a,b,c]:=
 ⟨_,w.heap.size,0,3,rfl,fun _=>⟨rfl,aO4 _⟩,fun k hk=>by
  match k,hk with
  | 0,_=>simp
  | 1,_=>simp
  | 2,_=>simp⟩
theorem nI (code j a b c:Int) (w:World) :
 Calls prog 11 #[.agg #[.int .i64 code,.int .i64 j,.int .i64 a,.int .i64 b,.int .i64 c]] w fun e w'=>∃v,e=.returned v/\bH (fun b=>w.heap.size≤b) w' v (aN3 ⟨code,j,a,b,c⟩)/\Below w.heap.size w w':=by
 have l:=fun o=>aE w o
 by_cases h1:code=2\/code=4\/code=5
 ·have E:Hid (aN3 ⟨code,j,a,b,c⟩=[a]):=by unfold Hid aN3;rw[if_pos h1]
  rcases h1 with rfl|rfl|rfl
  all_goals
   go_enter Tryz.func11,Tryz.ntmps11
   go_wp2
   go_ret
   refine ⟨_,rfl,?_,iF (l _) (aE _ _)⟩
   rw[E.out]
   obtain ⟨I,u,n,cap,e,s,D⟩:=aL7 (w.alloc (.cells #[.int .i64 _,.int .i64 j,.int .i64 a,.int .i64 b,.int .i64 c] 38)) a
   refine ⟨I,u,n,cap,?_,fun r=>⟨(s r).1,aO6 (l _).size (s r).2⟩,D⟩
   rw[<-e];simp
 ·by_cases h2:6≤code/\code≤16
  ·have E:Hid (aN3 ⟨code,j,a,b,c⟩=[a,b]):=by unfold Hid aN3;rw[if_neg h1,if_pos h2]
   obtain ⟨y,Z⟩:=h2
   clear h1
   have Q:(code==2)=false:=by simp;omega
   have U:(code==4)=false:=by simp;omega
   have Y:(code==5)=false:=by simp;omega
   go_enter Tryz.func11,Tryz.ntmps11
   go_wp2
   go_ret
   refine ⟨_,rfl,?_,iF (l _) (aE _ _)⟩
   rw[E.out]
   obtain ⟨I,u,n,cap,e,s,D⟩:=aL6 (w.alloc (.cells #[.int .i64 code,.int .i64 j,.int .i64 a,.int .i64 b,.int .i64 c] 38)) a b
   refine ⟨I,u,n,cap,?_,fun r=>⟨(s r).1,aO6 (l _).size (s r).2⟩,D⟩
   rw[<-e];simp
  ·by_cases y:code=17
   ·have E:Hid (aN3 ⟨code,j,a,b,c⟩=[a,b,c]):=by unfold Hid aN3;rw[if_neg h1,if_neg h2,if_pos y]
    subst y
    clear h1 h2
    go_enter Tryz.func11,Tryz.ntmps11
    go_wp2
    go_ret
    refine ⟨_,rfl,?_,iF (l _) (aE _ _)⟩
    rw[E.out]
    obtain ⟨I,u,n,cap,e,s,D⟩:=aL5 (w.alloc (.cells #[.int .i64 17,.int .i64 j,.int .i64 a,.int .i64 b,.int .i64 c] 38)) a b c
    refine ⟨I,u,n,cap,?_,fun r=>⟨(s r).1,aO6 (l _).size (s r).2⟩,D⟩
    rw[<-e];simp
   ·have E:Hid (aN3 ⟨code,j,a,b,c⟩=[]):=by unfold Hid aN3;rw[if_neg h1,if_neg h2,if_neg y]
    have Q:(code==2)=false:=by simp;omega
    have U:(code==4)=false:=by simp;omega
    have Y:(code==5)=false:=by simp;omega
    have X:(code==17)=false:=by simp;omega
    clear h1 y
    by_cases h6:6≤code
    ·have O:16<code:=by omega
     clear h2
     go_enter Tryz.func11,Tryz.ntmps11
     go_wp2
     go_ret
     exact ⟨_,rfl,by rw[E.out];exact ⟨none,0,0,0,rfl,fun h=>by simp at h,fun k J=>by simp at J⟩,l _⟩
    ·have O:code<6:=by omega
     clear h2
     go_enter Tryz.func11,Tryz.ntmps11
     go_wp2
     go_ret
     exact ⟨_,rfl,by rw[E.out];exact ⟨none,0,0,0,rfl,fun h=>by simp at h,fun k J=>by simp at J⟩,l _⟩
end Nx
end
end Go.Proofs.YthieaobjdpfcoaaGreatDoor
