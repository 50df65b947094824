import Derived.Test.YtcdbhoknhnimcaaGreatDoorTNt3
import Derived.Deep.RegionHeld3
import Derived.Lib.SlicesCompact
import Derived.Shelf.Sort.Plain
import Derived.Ground.Names2Prog
import Derived.Shelf.Slices.Clone
import Derived.Shelf.Slices.CompactI
import Derived.Shelf.Slices.Cells
import Derived.Shelf.Slices.In.SortNone
import Derived.Test.YtcdbhoknhnimcaaGreatDoorProg
import Derived.Lib.OwnBridge
import Derived.Sort.OwnSortedInts
set_option maxRecDepth 100000
set_option maxHeartbeats 4000000
namespace Go.Proofs.YtcdbhoknhnimcaaGreatDoor
section
open Go.RowKit
namespace Nx
structure Lq (B:Nat) (w:World) (bm g:Nat) (n:Nt) (V:List Int):Prop where
 row:∃vF vI vO vK vN vC vp,w.heap[bm]?=some (.cells (pB n.places vF vI vO vK vN vC vp) 178 (0,0))/\bL (· < B) w vI n.ins/\bL (· < B) w vO n.outs/\bL (· < B) w vK n.keeps/\bL (· < B) w vN n.nums/\lH (· < B) w vC n.code/\Own w vp V g
 hb:B≤bm
 hg:B≤g
 gm:g≠bm
 gl:g<w.heap.size
structure Few (n:Nt) (V:List Int):Prop where
 v:V.length≤100000
 ins:n.ins.length≤100000
 outs:n.outs.length≤100000
 keeps:n.keeps.length≤100000
 code:n.code.length≤100000
theorem Vh (ad:Option Addr) (b off n cap k:Nat) (hk:k<n) (ha:0<n->ad=some ⟨b,off,none⟩) (w:World):(Instr.indexAt 24 (.slice ad n cap) (.int .i64 (k:Int))).run Tryz.prog w=.ok (.pointer (some ⟨b,off+k*5,none⟩)) w:=by
 obtain rfl:=ha (by omega)
 rw[run_indexAt_slice _ _ _ _ _ _ _ (by kernel_rfl),if_pos ⟨by omega,by omega⟩]
 have e:(sizeOf (Tryz.prog.elem 24)).run Tryz.prog w=.ok 5 w:=by kernel_rfl
 rw[e]
 simp[Result.andThen,Addr.add]
theorem wF (B:Nat) (n:Nt) (V ins:List Int) (bm g:Nat) (vi:Value) (w:World) (hM:Lq B w bm g n V) (hi:bL (· < B) w vi ins) (hf:Few n V) :
    Calls Tryz.prog 62 #[.pointer (some ⟨bm,0,none⟩),vi] w fun e w'=>∃v g',e=.returned v/\Lq B w' bm g' n (after n V ins)/\bL (fun b=>w.heap.size≤b/\b<g') w' v (tells n V ins)/\Fr w.heap.size [bm,g] w w'/\w.heap.size≤g'/\g'<w'.heap.size:=by
 obtain ⟨⟨vF,vI,vO,vK,vN,vC,vp,hm,hI,hO,hK,hN,hC,hp⟩,hbm,hgB,hgm,hgl⟩:=hM
 have hbl:=aB hm
 obtain ⟨adI,bI,offI,capI,rfl,hI1,hI2⟩:=id hI
 obtain ⟨adO,bO,offO,capO,rfl,hO1,hO2⟩:=id hO
 obtain ⟨adC,bC,offC,capC,rfl,hC1,hC2⟩:=id hC
 obtain ⟨adp,capp,rfl,hp1⟩:=id hp
 obtain ⟨adi,bi,offi,capi,rfl,hi1,hi2⟩:=id hi
 obtain ⟨adN,bN,offN,capN,rfl,hN1,hN2⟩:=id hN
 have h1:=hf.ins;have h2:=hf.outs;have h3:=hf.code;have h4:=hf.v;have hkp:=hf.keeps
 have HM:Hid (w.heap[bm]?=some (.cells (pB n.places vF (.slice adI n.ins.length capI) (.slice adO n.outs.length capO) vK (.slice adN n.nums.length capN) (.slice adC n.code.length capC) (.slice adp V.length capp)) 178 (0,0))):=hm
 have HI:Hid (bL (· < B) w (.slice adI n.ins.length capI) n.ins):=hI
 have HO:Hid (bL (· < B) w (.slice adO n.outs.length capO) n.outs):=hO
 have HK:Hid (bL (· < B) w vK n.keeps):=hK
 have HN:Hid (bL (· < B) w (.slice adN n.nums.length capN) n.nums):=hN
 have HC:Hid (lH (· < B) w (.slice adC n.code.length capC) n.code):=hC
 have Hi:Hid (bL (· < B) w (.slice adi ins.length capi) ins):=hi
 have HI1:Hid ((0<n.ins.length->adI=some ⟨bI,offI,none⟩/\bI<B)/\∀k,k<n.ins.length->w.cell? ⟨bI,offI+k,none⟩=some (.int .i64 (n.ins.getD k 0))):=⟨hI1,hI2⟩
 have HO1:Hid ((0<n.outs.length->adO=some ⟨bO,offO,none⟩/\bO<B)/\∀k,k<n.outs.length->w.cell? ⟨bO,offO+k,none⟩=some (.int .i64 (n.outs.getD k 0))):=⟨hO1,hO2⟩
 have HC1:Hid ((0<n.code.length->adC=some ⟨bC,offC,none⟩/\bC<B)/\_):=⟨hC1,hC2⟩
 have HP:Hid (Own w (.slice adp V.length capp) V g):=hp
 have HG:Hid (g<w.heap.size):=hgl
 clear hm hI hO hK hN hC hi hI1 hI2 hO1 hO2 hC1 hC2 hp hp1 hi1 hi2 hN1 hN2 hgl hf
 -- the world at the start of the loops
 obtain ⟨W,hW⟩:∃W,W=w.alloc (.cells #[.pointer (some ⟨bm,0,none⟩)] 123):=⟨_,rfl⟩
 have HS:Hid (W.heap.size=w.heap.size+1):=by unfold Hid;rw[hW];simp
 have HFW:Hid (Fr w.heap.size [] w W):=by unfold Hid;rw[hW];exact (Fr.refl _ _ _).alloc (Nat.le_refl _) _
 have HQ:Hid (W.cell? ⟨w.heap.size,0,none⟩=some (.pointer (some ⟨bm,0,none⟩))):=by unfold Hid;rw[hW];simp
 -- what stays,in whatever world behind it
 have HST:Hid (∀wr,Fr W.heap.size [g] W wr->wr.heap[bm]?=w.heap[bm]?/\wr.cell? ⟨w.heap.size,0,none⟩=some (.pointer (some ⟨bm,0,none⟩))/\aX (· < B) (· < B) w wr/\w.heap.size<wr.heap.size):=by
  intro wr h
  have s1:=HS.out
  refine ⟨?_,?_,?_,?_⟩
  ·rw[h.block bm (by omega) (by simp;omega),HFW.out.block bm hbl (by simp)]
  ·rw[aV (h.block w.heap.size (by omega) (by have:=HG.out;simp;omega))];exact HQ.out
  ·intro b hb hl
   exact ⟨hb,by rw[h.block b (by omega) (by simp;omega),HFW.out.block b hl (by simp)]⟩
  ·have:=h.size;omega
 have c2:(w.alloc (.cells #[.pointer (some ⟨bm,0,none⟩)] 123)).cell? ⟨bm,2,none⟩=some (.slice adI n.ins.length capI):=by rw[<-hW,aV (HFW.out.block bm hbl (by simp)),aA HM.out];rfl
 have HW:Hid (W=w.alloc (.cells #[.pointer (some ⟨bm,0,none⟩)] 123)):=hW
 clear hW
 go_enter Tryz.func62,Tryz.ntmps62
 go_wp2
 rw[<-HW.out]
 clear c2
 go_loopw [22] (fun i wr=>∃k:Nat,k≤n.ins.length/\i=.int .i64 k/\Own wr (.slice adp V.length capp) (yS n.ins ins V k) g/\Fr W.heap.size [g] W wr) (fun i _=>n.ins.length-(intOf i).toNat)
 case atStart=>exact ⟨0,Nat.zero_le _,rfl,HP.out.keep (HFW.out.block g HG.out (by simp)),Fr.refl _ _ _⟩
 case round=>
  obtain ⟨k,hk,rfl,hown,hF⟩:=hrel
  obtain ⟨sb,c0,sk,sl⟩:=HST.out wr hF
  have HF:Hid (Fr W.heap.size [g] W wr):=hF
  have SB:Hid (wr.heap[bm]?=w.heap[bm]?):=sb
  have SK:Hid (aX (· < B) (· < B) w wr):=sk
  clear hF sb sk
  by_cases hlt:k<n.ins.length
  ·have hix:=Jr adI bI offI n.ins.length capI k hlt (fun h=>(HI1.out.1 h).1)
   obtain ⟨x,hx⟩:∃x,x=n.ins.getD k 0:=⟨_,rfl⟩
   have cx:wr.cell? ⟨bI,offI+k,none⟩=some (.int .i64 x):=by
    have:=HI1.out.2 k hlt
    rw[aV (SK.out bI (HI1.out.1 (by omega)).2 (cM this)).2,hx];exact this
   have c7:wr.cell? ⟨bm,7,none⟩=some (.slice adp V.length capp):=by rw[aV SB.out,aA HM.out];rfl
   have hat:=J3 (A:=(· < B)) (.slice adi ins.length capi) ins k wr.drew ((Hi.out.carry SK.out).carry (fun b hb _=>⟨hb,rfl⟩))
   rw[Ga] at hat
   have hput:=nE (.slice adp V.length capp) (yS n.ins ins V k) g x (ins.getD k 0) wr.drew (hown.keep rfl)
   have HX:Hid (x=n.ins.getD k 0):=hx
   clear hx hown
   go_wp2_with fail
   go_region_with (first|(go_at_call 104;refine hat.mono ?_;rintro e w' ⟨rfl,rfl⟩)|(go_at_call 105;refine hput.mono ?_;rintro e w2 ⟨rfl,hown2,hF2⟩))
   all_goals
    go_wp2_with fail
    go_roundw
    case rel=>exact ⟨k+1,by omega,by go_num,by rw[yS,<-HX.out];exact hown2,HF.out.trans ((Fr.refl _ _ wr).drew.trans (hF2.mono (Nat.le_trans HF.out.size (Nat.le_refl _)) (fun y hy _=>hy)))⟩
    case measure=>simp[intOf];omega
  ·obtain rfl:k=n.ins.length:=by omega
   have c6:wr.cell? ⟨bm,6,none⟩=some (.slice adC n.code.length capC):=by rw[aV SB.out,aA HM.out];rfl
   have hvl:=xQ n.ins ins V n.ins.length
   obtain ⟨V1,hV1⟩:∃V1,V1=yS n.ins ins V n.ins.length:=⟨_,rfl⟩
   rw[<-hV1] at hvl hown
   have HV1:Hid (V1=yS n.ins ins V n.ins.length):=hV1
   have HL1:Hid (V1.length=V.length):=hvl
   have HO2:Hid (Own wr (.slice adp V.length capp) V1 g):=hown
   clear hV1 hvl hown hlt hk
   go_wp2
   go_loopw [43] (fun i wr=>∃k:Nat,k≤n.code.length/\i=.int .i64 k/\Own wr (.slice adp V.length capp) (iH n.nums n.code V1 k) g/\Fr W.heap.size [g] W wr) (fun i _=>n.code.length-(intOf i).toNat)
   case atStart=>exact ⟨0,Nat.zero_le _,rfl,HO2.out,HF.out⟩
   case round=>
    clear c6 c0 sl SB SK HO2 HF
    obtain ⟨k,hk,rfl,hown,hF⟩:=hrel
    obtain ⟨sb,c0,sk,sl⟩:=HST.out wr hF
    have HF:Hid (Fr W.heap.size [g] W wr):=hF
    have SB:Hid (wr.heap[bm]?=w.heap[bm]?):=sb
    have SK:Hid (aX (· < B) (· < B) w wr):=sk
    clear hF sb sk
    by_cases hlt:k<n.code.length
    ·have hix:=Vh adC bC offC n.code.length capC k hlt (fun h=>(HC1.out.1 h).1)
     obtain ⟨s,hs⟩:∃s,s=n.code.getD k iC:=⟨_,rfl⟩
     have hb':wr.heap[bC]?=w.heap[bC]?:=(SK.out bC (HC1.out.1 (by omega)).2 (cM (HC1.out.2 k hlt).1)).2
     obtain ⟨x0,x1,x2,x3,x4⟩:=HC1.out.2 k hlt
     rw[<-aV hb',<-hs] at x0 x1 x2 x3 x4
     have HX:Hid (s=n.code.getD k iC):=hs
     clear hs hb'
     have hmv:MV (· < B) wr w.heap.size bm g (.slice adp V.length capp) (.slice adN n.nums.length capN) (iH n.nums n.code V1 k) n.nums:=
      ⟨c0,by rw[aV SB.out,aA HM.out];rfl,hown,fun _=>Nat.lt_trans HG.out sl,HN.out.carry SK.out⟩
     have hc5:wr.cell? ⟨bm,5,none⟩=some (.slice adN n.nums.length capN):=by rw[aV SB.out,aA HM.out];rfl
     go_wp2_with fail
     obtain ⟨W2,hW2⟩:∃W2,W2=wr.alloc (.cells #[.int .i64 s.code,.int .i64 s.dst,.int .i64 s.a,.int .i64 s.b,.int .i64 s.c] 39):=⟨_,rfl⟩
     have hb2:Below wr.heap.size wr W2:=by rw[hW2];exact aD wr _
     have e0:W2.cell? ⟨wr.heap.size,0,none⟩=some (.int .i64 s.code):=by rw[hW2];simp
     have e1:W2.cell? ⟨wr.heap.size,1,none⟩=some (.int .i64 s.dst):=by rw[hW2];simp
     have e2:W2.cell? ⟨wr.heap.size,2,none⟩=some (.int .i64 s.a):=by rw[hW2];simp
     have e3:W2.cell? ⟨wr.heap.size,3,none⟩=some (.int .i64 s.b):=by rw[hW2];simp
     have e4:W2.cell? ⟨wr.heap.size,4,none⟩=some (.int .i64 s.c):=by rw[hW2];simp
     rw[<-hW2]
     have hsz2:wr.heap.size<W2.heap.size:=by rw[hW2];simp
     clear hW2 x0 x1 x2 x3 x4 hix c0
     have hmv2:=hmv.below hb2
     have c0:=hmv2.q
     have c7:=hmv2.p
     have c5:=aZ hb2 hc5
     have hdr:Below W2.heap.size W2 W2.drew:=⟨rfl,rfl,rfl,Nat.le_refl _,fun _ _=>rfl⟩
     have hmade:=gP W2.drew w.heap.size bm g _ _ _ _ s (hmv2.below hdr)
     have hnext:Hid (∀w3,Below W2.drew.heap.size W2.drew w3->(w3.cell? ⟨w.heap.size,0,none⟩=some (.pointer (some ⟨bm,0,none⟩))/\w3.cell? ⟨bm,7,none⟩=some (.slice adp V.length capp)/\w3.cell? ⟨bm,5,none⟩=some (.slice adN n.nums.length capN)/\w3.cell? ⟨wr.heap.size,0,none⟩=some (.int .i64 s.code)/\w3.cell? ⟨wr.heap.size,1,none⟩=some (.int .i64 s.dst)/\w3.cell? ⟨wr.heap.size,2,none⟩=some (.int .i64 s.a)/\w3.cell? ⟨wr.heap.size,3,none⟩=some (.int .i64 s.b)/\w3.cell? ⟨wr.heap.size,4,none⟩=some (.int .i64 s.c))/\
         Calls Tryz.prog 105 #[.slice adp V.length capp,.int .i64 s.dst,.int .i64 (made n.nums (iH n.nums n.code V1 k) s)] w3 fun e w'=>e=.returned (.tuple #[])/\Own w' (.slice adp V.length capp) (put (iH n.nums n.code V1 k) s.dst (made n.nums (iH n.nums n.code V1 k) s)) g/\Fr W.heap.size [g] W w'/\(w'.cell? ⟨w.heap.size,0,none⟩=some (.pointer (some ⟨bm,0,none⟩))/\w'.cell? ⟨bm,7,none⟩=some (.slice adp V.length capp)/\w'.cell? ⟨bm,5,none⟩=some (.slice adN n.nums.length capN)/\w'.cell? ⟨wr.heap.size,0,none⟩=some (.int .i64 s.code)/\w'.cell? ⟨wr.heap.size,1,none⟩=some (.int .i64 s.dst)/\w'.cell? ⟨wr.heap.size,2,none⟩=some (.int .i64 s.a)/\w'.cell? ⟨wr.heap.size,3,none⟩=some (.int .i64 s.b)/\w'.cell? ⟨wr.heap.size,4,none⟩=some (.int .i64 s.c))):=by
      intro w3 hb3
      have hmv3:=(hmv2.below hdr).below hb3
      have hb3':=eX hdr hb3
      have hs3:(w3.cell? ⟨w.heap.size,0,none⟩=some (.pointer (some ⟨bm,0,none⟩))/\w3.cell? ⟨bm,7,none⟩=some (.slice adp V.length capp)/\w3.cell? ⟨bm,5,none⟩=some (.slice adN n.nums.length capN)/\w3.cell? ⟨wr.heap.size,0,none⟩=some (.int .i64 s.code)/\w3.cell? ⟨wr.heap.size,1,none⟩=some (.int .i64 s.dst)/\w3.cell? ⟨wr.heap.size,2,none⟩=some (.int .i64 s.a)/\w3.cell? ⟨wr.heap.size,3,none⟩=some (.int .i64 s.b)/\w3.cell? ⟨wr.heap.size,4,none⟩=some (.int .i64 s.c)):=⟨hmv3.q,hmv3.p,aZ hb3' c5,aZ hb3' e0,aZ hb3' e1,aZ hb3' e2,aZ hb3' e3,aZ hb3' e4⟩
      refine ⟨hs3,(nE _ _ g s.dst (made n.nums (iH n.nums n.code V1 k) s) w3 hmv3.own).mono fun e w' ⟨he,ho,hf⟩=>⟨he,ho,?_,?_⟩⟩
      ·exact (HF.out.trans (Fr.of_below (((eX hb2 hb3').mono HF.out.size)) _)).trans (hf.mono (Nat.le_trans HF.out.size (eX hb2 hb3').size) (fun y hy _=>hy))
      ·have far:∀b o,b≠g->(∃v,w3.cell? ⟨b,o,none⟩=some v)->w'.cell? ⟨b,o,none⟩=w3.cell? ⟨b,o,none⟩:=fun b o hne ⟨v,hv⟩=>aV (hf.block b (cM hv) (by simpa using hne)) o
       obtain ⟨f0,f7,f5,s0,s1,s2,s3,s4⟩:=hs3
       have hG:=HG.out
       exact ⟨(far _ _ (by omega) ⟨_,f0⟩).trans f0,(far _ _ (Ne.symm hgm) ⟨_,f7⟩).trans f7,(far _ _ (Ne.symm hgm) ⟨_,f5⟩).trans f5,(far _ _ (by omega) ⟨_,s0⟩).trans s0,(far _ _ (by omega) ⟨_,s1⟩).trans s1,(far _ _ (by omega) ⟨_,s2⟩).trans s2,(far _ _ (by omega) ⟨_,s3⟩).trans s3,(far _ _ (by omega) ⟨_,s4⟩).trans s4⟩
     clear hmv hmv2 hc5 hdr hb2 hown
     go_region_held3 (fun w'=>w'.cell? ⟨w.heap.size,0,none⟩=some (.pointer (some ⟨bm,0,none⟩))/\w'.cell? ⟨bm,7,none⟩=some (.slice adp V.length capp)/\w'.cell? ⟨bm,5,none⟩=some (.slice adN n.nums.length capN)/\w'.cell? ⟨wr.heap.size,0,none⟩=some (.int .i64 s.code)/\w'.cell? ⟨wr.heap.size,1,none⟩=some (.int .i64 s.dst)/\w'.cell? ⟨wr.heap.size,2,none⟩=some (.int .i64 s.a)/\w'.cell? ⟨wr.heap.size,3,none⟩=some (.int .i64 s.b)/\w'.cell? ⟨wr.heap.size,4,none⟩=some (.int .i64 s.c)) (first|exact hS4|exact hS3|go_keep)
      ((first|(go_at_call 106;refine hmade.mono ?_;rintro e w3 ⟨rfl,hb3⟩;obtain ⟨hS3,hput⟩:=hnext.out w3 hb3)|(go_at_call 105;refine hput.mono ?_;rintro e w4 ⟨rfl,hown4,hF4,hS4⟩)))
     all_goals
      go_wp2_with fail
      go_roundw
      case rel=>exact ⟨k+1,by omega,by go_num,by rw[iH,<-HX.out];exact hown4,hF4⟩
      case measure=>simp[intOf];omega
    ·obtain rfl:k=n.code.length:=by omega
     have c3:wr.cell? ⟨bm,3,none⟩=some (.slice adO n.outs.length capO):=by rw[aV SB.out,aA HM.out];rfl
     have hvl:=uB n.nums n.code V1 n.code.length
     obtain ⟨V2,hV2⟩:∃V2,V2=iH n.nums n.code V1 n.code.length:=⟨_,rfl⟩
     rw[<-hV2] at hvl hown
     have HV2:Hid (V2=ran n V ins):=by unfold Hid ran;rw[hV2,HV1.out]
     have HL2:Hid (V2.length=V.length):=hvl.trans HL1.out
     have HO2:Hid (Own wr (.slice adp V.length capp) V2 g):=hown
     clear hV2 hvl hown hlt hk HV1 HL1
     obtain ⟨i0,hi,hz0,hz1,hz2⟩:=info_parts Tryz.infoI64
     go_wp2
     go_loopw [10,69] (fun v i wr=>∃k:Nat,k≤n.outs.length/\i=.int .i64 k/\wr.ownsRow W.heap.size 2 1 v k (((n.outs.take k).map (get V2)).map (Value.int .i64))/\Own wr (.slice adp V.length capp) V2 g/\Fr W.heap.size [g] W wr) (fun _ i _=>n.outs.length-(intOf i).toNat)
     case atStart=>exact ⟨0,Nat.zero_le _,rfl,World.ownsRow_nil _ _ _ _,HO2.out,HF.out⟩
     case round=>
      clear c3 c0 sl SB SK HO2 HF
      obtain ⟨k,hk,rfl,hrow,hown,hF⟩:=hrel
      obtain ⟨sb,c0,sk,sl⟩:=HST.out wr hF
      have HF:Hid (Fr W.heap.size [g] W wr):=hF
      have SB:Hid (wr.heap[bm]?=w.heap[bm]?):=sb
      have SK:Hid (aX (· < B) (· < B) w wr):=sk
      clear hF sb sk
      have c7:wr.cell? ⟨bm,7,none⟩=some (.slice adp V.length capp):=by rw[aV SB.out,aA HM.out];rfl
      by_cases hlt:k<n.outs.length
      ·have hix:=Jr adO bO offO n.outs.length capO k hlt (fun h=>(HO1.out.1 h).1)
       obtain ⟨x,hx⟩:∃x,x=n.outs.getD k 0:=⟨_,rfl⟩
       have cx:wr.cell? ⟨bO,offO+k,none⟩=some (.int .i64 x):=by
        have:=HO1.out.2 k hlt
        rw[aV (SK.out bO (HO1.out.1 (by omega)).2 (cM this)).2,hx];exact this
       have hask:=vR w.heap.size bm (.slice adp V.length capp) V2 g x wr c0 c7 hown
       have HX:Hid ((n.outs.take (k+1)).map (get V2)=(n.outs.take k).map (get V2)++[get V2 x]):=by unfold Hid;rw[hx,HV2.out];exact Mk n V ins k hlt
       have HWS:Hid (W.heap.size≤wr.heap.size):=HF.out.size
       have HO3:Hid (Own wr (.slice adp V.length capp) V2 g):=hown
       clear hx hown c7
       go_wp2_with (first|(go_at_call 103;refine hask.mono ?_;rintro e w' ⟨rfl,hw'⟩;obtain rfl:=hw'.symm)|(at_builtin;refine wpList_append_own _ rfl (.tmp 73) (.tmp 77) 22 rfl W.heap.size 2 i0 (.int .i64 0) 1 8 Tryz.underlying22 hi hz0 hz1 hz2 rfl (by decide) _ _ _ rfl (hrow.alloc _) ⟨wr.heap.size,0,none⟩ 1 1 [.int .i64 (get V2 x)] rfl rfl (cell_one_new _ _ _) (ints_oneCell .i64 [get V2 x]) (by unfold maxLen;omega) (by omega) (by have:=HWS.out;simp;omega) ?_;intro v' w1 hown1 hgrow1 _))
       go_roundw
       case rel=>
        have hs:=HS.out
        have hG:=HG.out
        have hws:=HWS.out
        refine ⟨k+1,by omega,by go_num,by rw[HX.out,List.map_append];exact hown1,HO3.out.keep ?_,(HF.out.alloc hws _).trans ⟨hgrow1.os,hgrow1.tape,hgrow1.output,hgrow1.size,fun b hb _=>hgrow1.block b (by simp;omega) (fun e=>by have:=(hrow.lt b e.symm).1;omega)⟩⟩
        rw[hgrow1.block g (by simp;omega) (fun e=>by have:=(hrow.lt g e.symm).1;omega)]
        exact Below.heap_alloc _ _ _ (by omega)
       case measure=>simp[intOf];omega
      ·obtain rfl:k=n.outs.length:=by omega
       rw[List.take_length] at hrow
       have hfg:=Dq (A:=(· < B)) n.places vF _ _ vK _ _ _ n.keeps V2 bm g wr (SB.out.trans HM.out) (HK.out.carry SK.out) hown (fun _=>Nat.lt_trans HG.out sl) (by have:=HL2.out;omega) hkp
       have HROW:Hid (∃gr,Own wr u10 (tells n V ins) gr/\W.heap.size≤gr/\(0<n.outs.length->gr<wr.heap.size)/\(tells n V ins).length=n.outs.length):=by
        have e:tells n V ins=n.outs.map (get V2):=by unfold tells;rw[HV2.out]
        rw[e];exact rC hrow
       clear hown hrow c7
       go_wp2_with (go_at_call 107;refine hfg.mono ?_;rintro e w4 ⟨rfl,vp',hm4,hown4,hF4,hlt4⟩)
       go_ret
       obtain ⟨gr,hr,hgr,hgl,-⟩:=HROW.out
       have hs:=HS.out
       have hG:=HG.out
       have hkeep:aX (· < B) (· < B) w w4:=fun b hb hl=>⟨hb,by rw[hF4.block b (by omega) (by simp;omega)];exact (SK.out b hb hl).2⟩
       refine ⟨_,wr.heap.size,rfl,⟨⟨vF,_,_,vK,_,_,vp',hm4,HI.out.carry hkeep,HO.out.carry hkeep,HK.out.carry hkeep,HN.out.carry hkeep,HC.out.carry hkeep,?_⟩,hbm,by omega,by omega,hlt4⟩,?_,?_,by omega,hlt4⟩
       ·unfold after;rw[<-HV2.out];exact hown4
       ·have h0:=tB n V ins
        by_cases hp:0<n.outs.length
        ·exact (hr.keep (hF4.block gr (hgl hp) (by simp;omega))).ints (fun _=>⟨by omega,hgl hp⟩)
        ·obtain ⟨ad,cap,e,_⟩:=hr
         exact ⟨ad,0,0,cap,e,fun h=>by omega,fun k hk=>by omega⟩
       ·have h1:Fr w.heap.size [bm,g] w wr:=((HFW.out.mono (Nat.le_refl _) (fun y hy _=>by simp at hy)).trans (HF.out.mono (by omega) (fun y hy _=>by simp at hy;simp[hy])))
        exact h1.trans (hF4.mono (by omega) (fun y hy _=>by simp at hy;simp[hy]))
end Nx
end
section
namespace Nx
open Go.Lib
theorem X9 (s:List Int) (j:Nat) (hj:j<s.length):keeps s.toArray j=true↔(j=0\/s[j]≠s[j-1]):=by
 unfold keeps
 have h1:s.toArray[j]! = s[j]:=by simp[hj]
 have h2:s.toArray[j-1]! = s[j-1]:=by
  have:j-1<s.length:=by omega
  simp[this]
 rw[h1,h2]
 simp
theorem I1 (s:List Int):(Lib.compact s).length<s.length↔∃j,j<s.length/\keeps s.toArray j=false:=by
 have e:(Lib.compact s).length=((List.range s.length).filter (keeps s.toArray)).length:=by unfold Lib.compact compactUpTo;simp
 rw[e]
 have hl:((List.range s.length).filter (keeps s.toArray)).length≤(List.range s.length).length:=List.length_filter_le _ _
 rw[List.length_range] at hl
 constructor
 ·intro h
  apply Classical.byContradiction
  intro hn
  have:(List.range s.length).filter (keeps s.toArray)=List.range s.length:=List.filter_eq_self.2 fun j hj=>by
   have hj':=List.mem_range.1 hj
   cases hk:keeps s.toArray j with
   | true=>rfl
   | false=>exact absurd ⟨j,hj',hk⟩ hn
  rw[this,List.length_range] at h
  omega
 ·rintro ⟨j,hj,hk⟩
  rcases Nat.lt_or_ge ((List.range s.length).filter (keeps s.toArray)).length s.length with h|h
  ·exact h
  ·have h2:((List.range s.length).filter (keeps s.toArray)).length=(List.range s.length).length:=by rw[List.length_range];omega
   have h3:=List.length_filter_eq_length_iff.1 h2 j (List.mem_range.2 hj)
   rw[hk] at h3;cases h3
theorem Bs (s:List Int) (hs:s.Pairwise (·≤·)):(Lib.compact s).length<s.length↔¬s.Nodup:=by
 rw[I1]
 constructor
 ·rintro ⟨j,hj,hk⟩ hn
  have h1:¬(j=0\/s[j]≠s[j-1]):=fun h=>by rw[(X9 s j hj).2 h] at hk;cases hk
  have h0:j≠0:=fun h=>h1 (.inl h)
  have e:s[j]=s[j-1]:=Classical.byContradiction fun h=>h1 (.inr h)
  exact (List.pairwise_iff_getElem.1 hn) (j-1) j (by omega) hj (by omega) e.symm
 ·intro hn
  apply Classical.byContradiction
  intro hno
  have hall:∀j (hj:j<s.length),0<j->s[j]≠s[j-1]:=fun j hj h0=>by
   have hk:keeps s.toArray j=true:=by
    cases hk:keeps s.toArray j with
    | true=>rfl
    | false=>exact absurd ⟨j,hj,hk⟩ hno
   rcases (X9 s j hj).1 hk with h|h
   ·omega
   ·exact h
  apply hn
  apply List.pairwise_iff_getElem.2
  intro i j hi hj hij e
  have hle:=List.pairwise_iff_getElem.1 hs
  have h1:s[j-1]≤s[j]:=hle (j-1) j (by omega) hj (by omega)
  have h2:=hall j hj (by omega)
  by_cases hc:i=j-1
  ·subst hc;exact h2 e.symm
  ·have h3:s[i]≤s[j-1]:=hle i (j-1) hi (by omega) (by omega)
   have:s[j]=s[j-1]:=by omega
   exact h2 this
theorem Wd (zs:List Int):(Lib.compact (zs.mergeSort fun x y=>decide (x≤y))).length<zs.length↔¬zs.Nodup:=by
 have hp:=List.mergeSort_perm zs (fun x y=>decide (x≤y))
 have hs:(zs.mergeSort fun x y=>decide (x≤y)).Pairwise (·≤·):=by
  have:=List.pairwise_mergeSort (le:=fun x y:Int=>decide (x≤y)) (fun a b c h1 h2=>by simp at *;omega) (fun a b=>by simp;omega) zs
  exact this.imp fun h=>by simpa using h
 have h:=Bs _ hs
 rw[hp.length_eq,hp.nodup_iff] at h
 exact h
end Nx
end
end Go.Proofs.YtcdbhoknhnimcaaGreatDoor
namespace Go.Proofs
open Go.Shelf
def Tryz.lays189_ren:Go.Shelf.Ren:=⟨fun|189=>73|125=>116|257=>115|128=>175|129=>176|294=>166|295=>167|296=>168|297=>169|298=>170|299=>171|216=>172|300=>173|301=>174|328=>206|329=>207|330=>208|331=>209|332=>210|215=>211|343=>245|n=>n,fun|28=>23|3=>3|46=>108|0=>0|51=>241|53=>148|4=>4|183=>234|182=>233|131=>143|5=>5|9=>9|218=>277|222=>107|228=>315|229=>198|n=>n,fun|n=>n⟩
theorem Tryz.lays189:Go.Proofs.Lays.n189 Tryz.prog Tryz.lays189_ren:={
 mixed:=by kernel_rfl
 f125:=Tryz.func116.trans (congrArg some (by kernel_rfl))
 f128:=Tryz.func175.trans (congrArg some (by kernel_rfl))
 f129:=Tryz.func176.trans (congrArg some (by kernel_rfl))
 f189:=Tryz.func73.trans (congrArg some (by kernel_rfl))
 f215:=Tryz.func211.trans (congrArg some (by kernel_rfl))
 f216:=Tryz.func172.trans (congrArg some (by kernel_rfl))
 f257:=Tryz.func115.trans (congrArg some (by kernel_rfl))
 f294:=Tryz.func166.trans (congrArg some (by kernel_rfl))
 f295:=Tryz.func167.trans (congrArg some (by kernel_rfl))
 f296:=Tryz.func168.trans (congrArg some (by kernel_rfl))
 f297:=Tryz.func169.trans (congrArg some (by kernel_rfl))
 f298:=Tryz.func170.trans (congrArg some (by kernel_rfl))
 f299:=Tryz.func171.trans (congrArg some (by kernel_rfl))
 f300:=Tryz.func173.trans (congrArg some (by kernel_rfl))
 f301:=Tryz.func174.trans (congrArg some (by kernel_rfl))
 f328:=Tryz.func206.trans (congrArg some (by kernel_rfl))
 f329:=Tryz.func207.trans (congrArg some (by kernel_rfl))
 f330:=Tryz.func208.trans (congrArg some (by kernel_rfl))
 f331:=Tryz.func209.trans (congrArg some (by kernel_rfl))
 f332:=Tryz.func210.trans (congrArg some (by kernel_rfl))
 f343:=Tryz.func245.trans (congrArg some (by kernel_rfl))
 t0:=Tryz.underlying0
 a0:=Tryz.isAgg0
 z0:=Tryz.sizeOf0
 v0:=Tryz.zeroValue0
 t3:=Tryz.underlying3
 a3:=Tryz.isAgg3
 z3:=Tryz.sizeOf3
 v3:=Tryz.zeroValue3
 t4:=Tryz.underlying4
 a4:=Tryz.isAgg4
 z4:=Tryz.sizeOf4
 v4:=Tryz.zeroValue4
 t5:=Tryz.underlying5
 a5:=Tryz.isAgg5
 z5:=Tryz.sizeOf5
 v5:=Tryz.zeroValue5
 t9:=Tryz.underlying9
 a9:=Tryz.isAgg9
 z9:=Tryz.sizeOf9
 v9:=Tryz.zeroValue9
 t28:=Tryz.underlying23
 a28:=Tryz.isAgg23
 z28:=Tryz.sizeOf23
 v28:=Tryz.zeroValue23
 t46:=Tryz.underlying108
 a46:=Tryz.isAgg108
 z46:=Tryz.sizeOf108
 v46:=Tryz.zeroValue108
 t51:=Tryz.underlying241
 a51:=Tryz.isAgg241
 z51:=Tryz.sizeOf241
 v51:=Tryz.zeroValue241
 t53:=Tryz.underlying148
 a53:=Tryz.isAgg148
 z53:=Tryz.sizeOf148
 v53:=Tryz.zeroValue148
 t131:=Tryz.underlying143
 a131:=Tryz.isAgg143
 z131:=Tryz.sizeOf143
 v131:=Tryz.zeroValue143
 t182:=Tryz.underlying233
 a182:=Tryz.isAgg233
 z182:=Tryz.sizeOf233
 v182:=Tryz.zeroValue233
 t183:=Tryz.underlying234
 a183:=Tryz.isAgg234
 z183:=Tryz.sizeOf234
 v183:=Tryz.zeroValue234
 t218:=Tryz.underlying277
 a218:=Tryz.isAgg277
 z218:=Tryz.sizeOf277
 v218:=Tryz.zeroValue277
 t222:=Tryz.underlying107
 a222:=Tryz.isAgg107
 z222:=Tryz.sizeOf107
 v222:=Tryz.zeroValue107
 t228:=Tryz.underlying315
 a228:=Tryz.isAgg315
 z228:=Tryz.sizeOf315
 v228:=Tryz.zeroValue315
 t229:=Tryz.underlying198
 a229:=Tryz.isAgg198
 z229:=Tryz.sizeOf198
 v229:=Tryz.zeroValue198 }
open Go.Sort Go.RowKit in
theorem Tryz.slices_Sort_int (blk off cap:Nat) (zs:List Int) (w:World) (hH:Holds (Value.int .i64) w blk off zs.toArray) (hblk:blk<w.heap.size) (hsz:zs.length<4611686018427387904) :
    Calls Tryz.prog 73 #[.slice (some ⟨blk,off,none⟩) zs.length cap] w fun e w'=>
     e=.returned (.tuple #[])/\∃n os,w'=grow (putRow (Value.int .i64) (Sort.ahead w n) blk off (zs.mergeSort fun x y=>decide (x≤y)).toArray) os:=Any.slices_Sort_int Tryz.lays189 blk off cap zs w hH hblk hsz
def Tryz.laysNm215_ren:Go.Shelf.Ren:=⟨fun|15=>32|n=>n,fun|22=>23|3=>3|4=>4|n=>n,fun|n=>n⟩
theorem Tryz.laysNm215:Go.Proofs.Lays2.n15 Tryz.prog Tryz.laysNm215_ren:={
 mixed:=by kernel_rfl
 f15:=Tryz.func32.trans (congrArg some (by kernel_rfl))
 t3:=Tryz.underlying3
 a3:=Tryz.isAgg3
 z3:=Tryz.sizeOf3
 v3:=Tryz.zeroValue3
 t4:=Tryz.underlying4
 a4:=Tryz.isAgg4
 z4:=Tryz.sizeOf4
 v4:=Tryz.zeroValue4
 t22:=Tryz.underlying23
 a22:=Tryz.isAgg23
 z22:=Tryz.sizeOf23
 v22:=Tryz.zeroValue23
 i3:=by kernel_rfl }
open Go.RowKit Go.Lib in
theorem Tryz.slices_Clone_int (b off n c:Nat) (zs:List Int) (w:World) (hz:n≤zs.length) (hbig:n*8≤140737488355328) (hc:∀j,j<zs.length->w.cell? ⟨b,off+j,none⟩=some (.int .i64 (zs.getD j 0))) :
    Calls Tryz.prog 32 #[.slice (some ⟨b,off,none⟩) n c] w fun e w'=>∃v',e=.returned v'/\w'.ownsRow w.heap.size 3 1 v' n ((zs.take n).map (Value.int .i64))/\v'≠.slice none 0 0/\Below w.heap.size w w':=Any.slices_Clone_int Tryz.laysNm215 b off n c zs w hz hbig hc
open Go.RowKit Go.Lib in
theorem Tryz.slices_Clone_int_nil (n c:Nat) (w:World) :
    Calls Tryz.prog 32 #[.slice none n c] w fun e w'=>e=.returned (.slice none 0 0)/\w'=w:=Any.slices_Clone_int_nil Tryz.laysNm215 n c w
open Go.RowKit Go.Lib in
theorem Tryz.slices_Clone_int_zero (a:Addr) (c:Nat) (w:World) :
    Calls Tryz.prog 32 #[.slice (some a) 0 c] w fun e w'=>∃v',e=.returned v'/\w'.ownsRow w.heap.size 3 1 v' 0 []/\v'≠.slice none 0 0/\Below w.heap.size w w':=Any.slices_Clone_int_zero Tryz.laysNm215 a c w
def Tryz.laysNm220_ren:Go.Shelf.Ren:=⟨fun|20=>121|n=>n,fun|22=>23|3=>3|4=>4|0=>0|n=>n,fun|n=>n⟩
theorem Tryz.laysNm220:Go.Proofs.Lays2.n20 Tryz.prog Tryz.laysNm220_ren:={
 mixed:=by kernel_rfl
 f20:=Tryz.func121.trans (congrArg some (by kernel_rfl))
 t0:=Tryz.underlying0
 a0:=Tryz.isAgg0
 z0:=Tryz.sizeOf0
 v0:=Tryz.zeroValue0
 t3:=Tryz.underlying3
 a3:=Tryz.isAgg3
 z3:=Tryz.sizeOf3
 v3:=Tryz.zeroValue3
 t4:=Tryz.underlying4
 a4:=Tryz.isAgg4
 z4:=Tryz.sizeOf4
 v4:=Tryz.zeroValue4
 t22:=Tryz.underlying23
 a22:=Tryz.isAgg23
 z22:=Tryz.sizeOf23
 v22:=Tryz.zeroValue23
 i3:=by kernel_rfl }
open Go.RowKit Go.Lib Go.Sort in
theorem Tryz.slices_Compact_int (blk off cap:Nat) (zs:List Int) (w:World) (hH:Holds (Value.int .i64) w blk off zs.toArray) (hsz:zs.length≤9223372036854775807) (hcap:zs.length≤cap) :
    Calls Tryz.prog 121 #[.slice (some ⟨blk,off,none⟩) zs.length cap] w fun e w'=>e=.returned (.slice (some ⟨blk,off,none⟩) (Lib.compact zs).length cap)/\∃q,w'=putRow (Value.int .i64) (Sort.ahead w q) blk off (Lib.compact zs++List.replicate (zs.length-(Lib.compact zs).length) 0).toArray:=Any.slices_Compact_int Tryz.laysNm220 blk off cap zs w hH hsz hcap
open Go.RowKit Go.Lib Go.Sort in
theorem Tryz.slices_Compact_int_empty (a:Option Addr) (cap:Nat) (w:World) :
    Calls Tryz.prog 121 #[.slice a 0 cap] w fun e w'=>e=.returned (.slice a 0 cap)/\w'=w:=Any.slices_Compact_int_empty Tryz.laysNm220 a cap w
open Go.RowKit Go.Sort in
theorem Tryz.slices_Sort_int_none (p:Option Addr) (cap:Nat) (w:World) :
    Calls Tryz.prog 73 #[.slice p 0 cap] w fun e w'=>e=.returned (.tuple #[])/\w'=w:=Any.slices_Sort_int_none Tryz.lays189 p cap w
end Go.Proofs
namespace Go.Proofs.YtcdbhoknhnimcaaGreatDoor
section
open Go.RowKit Go.Sort
namespace Nx
theorem Rc (n c:Nat) (w:World):(binOp BinOp.eql 22 (.slice none n c) (.slice none 0 0)).run Tryz.prog w=.ok (.bool true) w:=by kernel_rfl
theorem Iy (a:Addr) (n c:Nat) (w:World):(binOp BinOp.eql 22 (.slice (some a) n c) (.slice none 0 0)).run Tryz.prog w=.ok (.bool false) w:=by kernel_rfl
theorem Kr (n c:Nat) (w:World):Calls Tryz.prog 31 #[.slice none n c] w fun e w'=>e=.returned (.slice none 0 0)/\w'=w:=by
 have q0:=Rc
 go_enter Tryz.func31,Tryz.ntmps31
 go_wp2
 go_ret
 exact ⟨rfl,rfl⟩
theorem Ea (a0:Addr) (n c:Nat) (zs:List Int) (w:World) (hn:zs.length=n) (hbig:n≤100000) (hc:∀j u,(zs.map (Value.int .i64))[j]?=some u->w.cell? (a0.add j)=some u) :
    Calls Tryz.prog 31 #[.slice (some a0) n c] w fun e w'=>∃v',e=.returned v'/\w'.ownsRow w.heap.size 2 1 v' n (zs.map (Value.int .i64))/\Below w.heap.size w w':=by
 have q0:=Iy
 have hown0:(w.alloc (.cells #[] 2)).ownsRow w.heap.size 2 1 (.slice (some ⟨w.heap.size,0,none⟩) 0 0) 0 []:=
  ⟨rfl,.inr ⟨w.heap.size,0,#[],rfl,Nat.le_refl _,heap_alloc_new w _,Nat.le_refl _,Nat.zero_le _,rfl,rfl⟩⟩
 have hcc:∀j u,(zs.map (Value.int .i64))[j]?=some u->(w.alloc (.cells #[] 2)).cell? (a0.add j)=some u:=fun j u hj=>by
  have h1:=hc j u hj
  exact (World.cell?_of_block (Below.heap_alloc _ _ _ (World.block_lt_of_cell? _ _ h1))).trans h1
 have hl1:(zs.map (Value.int .i64)).length=n*1:=by simp[hn]
 clear hc
 obtain ⟨i0,hi,hz0,hz1,hz2⟩:=info_parts Tryz.infoI64
 go_enter Tryz.func31,Tryz.ntmps31
 go_wp2_with (at_builtin;refine wpList_append_own _ rfl (.tmp 5) (.tmp 6) 22 rfl w.heap.size 2 i0 (.int .i64 0) 1 8 Tryz.underlying22 hi hz0 hz1 hz2 rfl (by decide) _ _ _ rfl hown0 a0 n c (zs.map (Value.int .i64)) rfl hl1 hcc (ints_oneCell .i64 zs) (by unfold maxLen;omega) (by omega) (by simp) ?_;intro v' w1 hown1 hgrow1 _)
 go_ret
 refine ⟨_,rfl,by rw[Nat.zero_add,List.nil_append] at hown1;exact hown1,?_⟩
 have hb0:Below w.heap.size w (w.alloc (.cells #[] 2)):=aD w _
 exact hb0.grown hgrow1 hb0.size (fun j hj=>by cases hj;exact Nat.le_refl _)
theorem Gk {A:Nat->Prop}(v:Value) (zs:List Int) (w:World) (h:bL A w v zs) (hbig:zs.length≤100000) :
    Calls Tryz.prog 31 #[v] w fun e w'=>∃v',e=.returned v'/\w'.ownsRow w.heap.size 2 1 v' zs.length (zs.map (Value.int .i64))/\Below w.heap.size w w':=by
 obtain ⟨ad,b,off,cap,rfl,h1,h2⟩:=h
 cases ad with
 | none=>
  have h0:zs=[]:=by
   cases zs with
   | nil=>rfl
   | cons x r=>have:=(h1 (by simp)).1;cases this
  subst h0
  refine (Kr _ _ w).mono fun e w' ⟨he,hw⟩=>⟨_,he,?_,by rw[hw];exact Below.refl _ _⟩
  exact World.ownsRow_nil _ _ _ _
 | some a0=>
  refine Ea a0 zs.length cap zs w rfl hbig fun j u hj=>?_
  have hlt:j<zs.length:=by have:=(List.getElem?_eq_some_iff.1 hj).1;simpa using this
  have e:=(h1 (by omega)).1
  obtain rfl:a0=⟨b,off,none⟩:=Option.some.inj e
  have hc:=h2 j hlt
  rw[show (⟨b,off,none⟩:Addr).add j=⟨b,off+j,none⟩ by simp[Addr.add],hc,<-hj]
  simp[List.getD_eq_getElem?_getD,hlt]
theorem Rq {A:Nat->Prop}(v:Value) (zs:List Int) (w:World) (h:bL A w v zs) (hbig:zs.length≤100000) (hp:0<zs.length) :
    Calls Tryz.prog 32 #[v] w fun e w'=>∃v',e=.returned v'/\w'.ownsRow w.heap.size 3 1 v' zs.length (zs.map (Value.int .i64))/\v'≠.slice none 0 0/\Below w.heap.size w w':=by
 obtain ⟨ad,b,off,cap,rfl,h1,h2⟩:=h
 obtain ⟨rfl,_⟩:=h1 hp
 have:=Tryz.slices_Clone_int b off zs.length cap zs w (Nat.le_refl _) (by omega) h2
 rw[List.take_length] at this
 exact this
theorem Bh (ad:Option Addr) (c:Nat) (w:World):Calls Tryz.prog 99 #[.slice ad 0 c] w fun e w'=>e=.returned (.bool false)/\Below w.heap.size w w':=by
 have hcl:Calls Tryz.prog 32 #[.slice ad 0 c] w fun e w'=>∃p cc,e=.returned (.slice p 0 cc)/\Below w.heap.size w w':=by
  cases ad with
  | none=>exact (Tryz.slices_Clone_int_nil 0 c w).mono fun e w' ⟨he,hw⟩=>⟨_,_,he,by rw[hw];exact Below.refl _ _⟩
  | some a=>
   refine (Tryz.slices_Clone_int_zero a c w).mono fun e w' ⟨v',he,ho,_,hb⟩=>?_
   rcases ho.2 with ⟨rfl,_⟩|⟨g,cap,cur,rfl,_⟩
   ·exact ⟨_,_,he,hb⟩
   ·exact ⟨_,_,he,hb⟩
 have hs:=fun p cc w1=>Tryz.slices_Sort_int_none p cc w1
 have hk:=fun p cc w1=>Tryz.slices_Compact_int_empty p cc w1
 go_enter Tryz.func99,Tryz.ntmps99
 go_wp2_with (first|(go_at_call 32;refine hcl.mono ?_;rintro e w1 ⟨p,cc,rfl,hb⟩)|(go_at_call 73;refine (hs _ _ _).mono ?_;rintro e w2 ⟨rfl,hw2⟩;obtain rfl:=hw2.symm)|(go_at_call 121;refine (hk _ _ _).mono ?_;rintro e w3 ⟨rfl,hw3⟩;obtain rfl:=hw3.symm))
 go_ret
 exact ⟨rfl,hb⟩
theorem aC3 (g n cap:Nat) (zs ss:List Int) (w:World) (hH:Holds (Value.int .i64) w g 0 zs.toArray) (hgl:g<w.heap.size) (hn:zs.length=n) (hb:n≤100000) (hs:ss=zs.mergeSort fun x y=>decide (x≤y)) :
    Calls Tryz.prog 73 #[.slice (some ⟨g,0,none⟩) n cap] w fun e w2=>e=.returned (.tuple #[])/\Hid (Holds (Value.int .i64) w2 g 0 ss.toArray/\w.grownBy w2 (some g)):=by
 subst hs hn
 refine (Tryz.slices_Sort_int g 0 cap zs w hH hgl (by omega)).mono fun e w2 ⟨he,nn,os,hw2⟩=>⟨he,?_,?_⟩
 ·rw[hw2]
  exact holds_grow (Value.int .i64) _ os g 0 _ (by simpa [putRow,mapBlock,Sort.ahead] using hgl) (holds_putRow (Value.int .i64) _ g 0 _ _ (holds_ahead (Value.int .i64) w nn g 0 _ hH) (by simp))
 ·rw[hw2];exact grownBy_sortedI _
theorem aG0 (g n cap cl:Nat) (ss:List Int) (w:World) (hH:Holds (Value.int .i64) w g 0 ss.toArray) (hn:ss.length=n) (hb:n≤100000) (hcap:n≤cap) (hcl:cl=(Lib.compact ss).length) :
    Calls Tryz.prog 121 #[.slice (some ⟨g,0,none⟩) n cap] w fun e w3=>e=.returned (.slice (some ⟨g,0,none⟩) cl cap)/\Hid (∀B w0,Below B w0 w->B≤g->Below B w0 w3):=by
 subst hcl hn
 refine (Tryz.slices_Compact_int g 0 cap ss w hH (by omega) hcap).mono fun e w3 ⟨he,q,hw3⟩=>⟨he,fun B w0 h1 h2=>?_⟩
 rw[hw3];exact Lib.below_putRow h1 h2
theorem Bg {A:Nat->Prop}(v:Value) (zs:List Int) (w:World) (h:bL A w v zs) (hbig:zs.length≤100000) (hp:0<zs.length) :
    Calls Tryz.prog 99 #[v] w fun e w'=>e=.returned (.bool (decide (¬zs.Nodup)))/\Below w.heap.size w w':=by
 have hcl:=Rq v zs w h hbig hp
 obtain ⟨ad,b,off,capv,rfl,-,-⟩:=h
 obtain ⟨ss,hss⟩:∃ss,ss=zs.mergeSort fun x y=>decide (x≤y):=⟨_,rfl⟩
 obtain ⟨cl,hcl0⟩:∃cl,cl=(Lib.compact ss).length:=⟨_,rfl⟩
 have HD:Hid (decide (cl<zs.length)=decide (¬zs.Nodup)):=by
  unfold Hid
  have:=Wd zs
  rw[<-hss,<-hcl0] at this
  by_cases hn:zs.Nodup
  ·rw[decide_eq_false (fun h=>this.1 h hn),decide_eq_false (by simpa using hn)]
  ·have:=this.2 hn
   rw[decide_eq_true this,decide_eq_true hn]
 obtain ⟨n,hn⟩:∃n,n=zs.length:=⟨_,rfl⟩
 have HL:Hid (ss.length=n):=by unfold Hid;rw[hss,List.length_mergeSort];exact hn.symm
 rw[<-hn] at hcl HD ⊢
 have HN:Hid (zs.length=n):=hn.symm
 have hb0:n≤100000:=by omega
 have HSS:Hid (ss=zs.mergeSort fun x y=>decide (x≤y)):=hss
 have HCL:Hid (cl=(Lib.compact ss).length):=hcl0
 have HCLONE:Hid (Calls Tryz.prog 32 #[.slice ad n capv] w fun e w'=>∃g cap,e=.returned (.slice (some ⟨g,0,none⟩) n cap)/\Hid (Holds (Value.int .i64) w' g 0 zs.toArray/\w.heap.size≤g/\g<w'.heap.size/\n≤cap/\Below w.heap.size w w')):=by
  refine hcl.mono fun e w1 ⟨v1,he,hown,hnn,hbel⟩=>?_
  obtain ⟨g,cap,rfl,hbg,hgl,hncap,hcm,hlen,hH⟩:=Lib.holds_of_ownsRow hown hnn
  exact ⟨g,cap,he,hH,hbg,hgl,hncap,hbel⟩
 clear hn hp hbig hss hcl0 hcl
 have hcl:=HCLONE.out
 clear HCLONE
 go_enter Tryz.func99,Tryz.ntmps99
 go_wp2_with (first
  | (go_at_call 32;refine hcl.mono ?_;rintro e w1 ⟨g,cap,rfl,X⟩
     have hsort:=aC3 g n cap zs ss w1 X.out.1 X.out.2.2.1 HN.out hb0 HSS.out
     clear hcl)
  | (go_at_call 73;refine hsort.mono ?_;rintro e w2 ⟨rfl,Y⟩
     have hcomp:=aG0 g n cap cl ss w2 Y.out.1 HL.out hb0 X.out.2.2.2.1 HCL.out
     clear hsort)
  | (go_at_call 121;refine hcomp.mono ?_;rintro e w3 ⟨rfl,Z⟩))
 go_ret
 refine ⟨by rw[<-HD.out];rfl,?_⟩
 exact Z.out _ _ (X.out.2.2.2.2.grown Y.out.2 X.out.2.2.2.2.size (fun j hj=>by cases hj;exact X.out.2.1)) X.out.2.1
theorem zE {A:Nat->Prop}(v:Value) (zs:List Int) (w:World) (h:bL A w v zs) (hbig:zs.length≤100000) :
    Calls Tryz.prog 99 #[v] w fun e w'=>e=.returned (.bool (decide (¬zs.Nodup)))/\Below w.heap.size w w':=by
 by_cases hp:0<zs.length
 ·exact Bg v zs w h hbig hp
 ·obtain rfl:zs=[]:=List.length_eq_zero_iff.1 (by omega)
  obtain ⟨ad,b,off,cap,rfl,-,-⟩:=h
  have e:decide (¬([]:List Int).Nodup)=false:=by simp
  rw[e]
  exact Bh ad cap w
end Nx
end
end Go.Proofs.YtcdbhoknhnimcaaGreatDoor
