import Derived.Test.YtcdbhoknhnimcaaGreatDoorSIf
import Derived.Deep.Cut
import Derived.Deep.RegionHeld3
set_option maxHeartbeats 4000000
namespace Go.Proofs.YtcdbhoknhnimcaaGreatDoor
section
open Go.RowKit
namespace Ix
open Nx
theorem aZ5 {w w1:World}{cs:Array Value}(hb:Below w.heap.size w w1) (hbox:w1.heap[w.heap.size]?=some (.cells cs 26 (0,0))) :
    WS w (((w1.alloc (.cells #[.int .u8 67,.int .u8 76,.int .u8 80,.int .u8 49] 5 (4,5))).alloc (.cells #[.slice (some ⟨w1.heap.size,0,none⟩) 4 4] 99)).alloc (.cells #[.func (.func 47) #[] #[.pointer (some ⟨w1.heap.size+1,0,none⟩)]] 101)) cs (w1.heap.size+1) (w1.heap.size+1+1) (.slice (some ⟨w1.heap.size,0,none⟩) 4 4) [67,76,80,49]:=by
 have hl:=aB hbox
 have hs:=hb.size
 obtain ⟨O1,h1⟩:∃O,O=Obj.cells #[.int .u8 67,.int .u8 76,.int .u8 80,.int .u8 49] 5 (4,5):=⟨_,rfl⟩
 obtain ⟨O2,h2⟩:∃O,O=Obj.cells #[.slice (some ⟨w1.heap.size,0,none⟩) 4 4] 99:=⟨_,rfl⟩
 obtain ⟨O3,h3⟩:∃O,O=Obj.cells #[.func (.func 47) #[] #[.pointer (some ⟨w1.heap.size+1,0,none⟩)]] 101:=⟨_,rfl⟩
 rw[<-h1,<-h2,<-h3]
 have s1:(w1.alloc O1).heap.size=w1.heap.size+1:=by simp
 have s2:((w1.alloc O1).alloc O2).heap.size=w1.heap.size+1+1:=by simp
 have b3:(((w1.alloc O1).alloc O2).alloc O3).heap[w1.heap.size+1+1]?=some O3:=by rw[<-s2];exact heap_alloc_new _ _
 have b2:(((w1.alloc O1).alloc O2).alloc O3).heap[w1.heap.size+1]?=some O2:=by
  rw[Below.heap_alloc _ _ _ (by rw[s2];omega),<-s1];exact heap_alloc_new _ _
 have b1:(((w1.alloc O1).alloc O2).alloc O3).heap[w1.heap.size]?=some O1:=by
  rw[Below.heap_alloc _ _ _ (by rw[s2];omega),Below.heap_alloc _ _ _ (by rw[s1];omega)];exact heap_alloc_new _ _
 have b0:(((w1.alloc O1).alloc O2).alloc O3).heap[w.heap.size]?=some (.cells cs 26 (0,0)):=by
  rw[Below.heap_alloc _ _ _ (by rw[s2];omega),Below.heap_alloc _ _ _ (by rw[s1];omega),Below.heap_alloc _ _ _ hl];exact hbox
 replace b1:=b1.trans (congrArg some h1)
 replace b2:=b2.trans (congrArg some h2)
 replace b3:=b3.trans (congrArg some h3)
 refine ⟨⟨b2,.inr ⟨w1.heap.size,rfl,hs,aB b1,fun j u hu=>?_⟩,by simp only[Value.ownBlock];intro e;injection e with e;omega⟩,b0,b3,by simp only[Value.ownBlock];intro e;injection e with e;omega,by simp only[Value.ownBlock];intro e;injection e with e;omega,by omega,by omega,by omega,((hb.alloc hs _).alloc (by rw[s1];omega) _).alloc (by rw[s2];omega) _⟩
 rw[cell_of_row _ _ _ _ _ _ b1,<-hu,<-Array.getElem?_toList]
 rfl
theorem WS.reads {w W:World}{x0 x1 x2 x3 x4 x5 x6:Value}{q f:Nat}{v:Value}{l:List UInt8}(h:WS w W #[x0,x1,x2,x3,x4,x5,x6] q f v l) :
    W.cell? ⟨f,0,none⟩=some (.func (.func 47) #[] #[.pointer (some ⟨q,0,none⟩)])/\W.cell? ⟨w.heap.size,0,none⟩=some x0/\W.cell? ⟨w.heap.size,1,none⟩=some x1/\W.cell? ⟨w.heap.size,2,none⟩=some x2/\W.cell? ⟨w.heap.size,3,none⟩=some x3/\W.cell? ⟨w.heap.size,4,none⟩=some x4/\W.cell? ⟨w.heap.size,5,none⟩=some x5/\W.cell? ⟨w.heap.size,6,none⟩=some x6:=
 ⟨(dD h.fn 0 _ rfl).1,(dD h.box 0 _ rfl).1,(dD h.box 1 _ rfl).1,(dD h.box 2 _ rfl).1,(dD h.box 3 _ rfl).1,(dD h.box 4 _ rfl).1,(dD h.box 5 _ rfl).1,(dD h.box 6 _ rfl).1⟩
structure WT (w W:World) (cs:Array Value) (q f:Nat) (v:Value) (l:List UInt8) (sb g:Nat) (st:Array Value):Prop where
 ws:WS w W cs q f v l
 st:W.heap[sb]?=some (.cells st 39 (0,0))
 pt:W.heap[g]?=some (.cells (bD7 sb) 107 (0,0))
 ns:v.ownBlock≠some sb
 ng:v.ownBlock≠some g
 qs:sb≠q
 qg:g≠q
theorem WT.moved {w W W':World}{cs:Array Value}{q f:Nat}{v v':Value}{l l':List UInt8}{sb g:Nat}{st:Array Value}(h:WT w W cs q f v l sb g st) (hw:WS w W' cs q f v' l') (hf:PF q W W' v v'):WT w W' cs q f v' l' sb g st:=by
 have b0:=aB h.st
 have b1:=aB h.pt
 refine ⟨hw,?_,?_,hf.at_.ne b0 h.ns,hf.at_.ne b1 h.ng,h.qs,h.qg⟩
 ·rw[hf.block _ b0 h.qs h.ns];exact h.st
 ·rw[hf.block _ b1 h.qg h.ng];exact h.pt
theorem bP0 {w W:World}{cs:Array Value}{q f:Nat}{v:Value}{l:List UInt8}(h:WS w W cs q f v l):WS w W.drew cs q f v l:=h.more ⟨rfl,rfl,rfl,Nat.le_refl _,fun _ _=>rfl⟩
theorem cA0 {w W:World}{cs:Array Value}{q f:Nat}{v:Value}{l:List UInt8}{sb g:Nat}{st:Array Value}(h:WT w W cs q f v l sb g st) (z:Int) (hl:l.length≤1000000000) (h1:-9223372036854775808≤z) (h2:z≤9223372036854775807) :
    Calls Tryz.prog 47 #[.int .i64 z,.pointer (some ⟨q,0,none⟩)] W.drew fun e W'=>e=.returned (.tuple #[])/\∃v',Hid (WT w W' cs q f v' (l++P8 z) sb g st):=by
 have hb:Below W.heap.size W W.drew:=⟨rfl,rfl,rfl,Nat.le_refl _,fun _ _=>rfl⟩
 have h':WT w W.drew cs q f v l sb g st:=h.moved (bP0 h.ws) ((PF.refl q W v).below hb)
 exact (aB6 h'.ws z hl h1 h2).mono fun _ _ ⟨he,v',X⟩=>⟨he,v',h'.moved X.out.1 X.out.2⟩
theorem Eh (g n k:Nat) (hk:k<n) (w:World):(Instr.indexAt 104 (.slice (some ⟨g,0,none⟩) n 5) (.int .i64 (k:Int))).run Tryz.prog w=.ok (.pointer (some ⟨g,k,none⟩)) w:=by
 rw[run_indexAt_slice _ _ _ _ _ _ _ (by kernel_rfl),if_pos ⟨by omega,by omega⟩]
 have e:(sizeOf (Tryz.prog.elem 104)).run Tryz.prog w=.ok 1 w:=by kernel_rfl
 rw[e]
 simp[Result.andThen,Addr.add]
 omega
theorem V0 (c:Int):dJ c≤3:=by unfold dJ;split<;>(try split)<;>(try split)<;>omega
theorem oO (s:Sp):(eK s).length=2+dJ s.code:=by
 have:=V0 s.code
 unfold eK
 simp
 omega
theorem yH {w:World}{code dst a b c:Int}{sb:Nat}(h:w.heap[sb]?=some (.cells #[.int .i64 code,.int .i64 dst,.int .i64 a,.int .i64 b,.int .i64 c] 39 (0,0))) (j:Nat) (hj:j<2+dJ code):w.cell? ⟨sb,j,none⟩=some (.int .i64 ((eK ⟨code,dst,a,b,c⟩).getD j 0)):=by
 have h3:=V0 code
 have hm:dJ code=0\/dJ code=1\/dJ code=2\/dJ code=3:=by omega
 rw[cell_of_row _ _ _ _ _ _ h]
 unfold eK
 simp only
 rcases hm with hm|hm|hm|hm<;>rw[hm] at hj ⊢
 ·match j,hj with
  | 0,_=>rfl
  | 1,_=>rfl
 ·match j,hj with
  | 0,_=>rfl
  | 1,_=>rfl
  | 2,_=>rfl
 ·match j,hj with
  | 0,_=>rfl
  | 1,_=>rfl
  | 2,_=>rfl
  | 3,_=>rfl
 ·match j,hj with
  | 0,_=>rfl
  | 1,_=>rfl
  | 2,_=>rfl
  | 3,_=>rfl
  | 4,_=>rfl
theorem R7 {w:World}{sb g:Nat}(h:w.heap[g]?=some (.cells (bD7 sb) 107 (0,0))) (j:Nat) (hj:j<5):w.cell? ⟨g,j,none⟩=some (.pointer (some ⟨sb,j,none⟩)):=by
 rw[cell_of_row _ _ _ _ _ _ h]
 match j,hj with
 | 0,_=>rfl
 | 1,_=>rfl
 | 2,_=>rfl
 | 3,_=>rfl
 | 4,_=>rfl
theorem cB7 {s:Sp}(h:∀z∈eK s,0≤z/\z≤4000):(ps s).length≤50:=by
 have h1:=aE8 (eK s) fun z hz=>by have:=h z hz;omega
 have h2:=oO s
 have h3:=V0 s.code
 unfold ps
 omega
theorem aW9 {l:List Sp}(h:∀s∈l,∀z∈eK s,0≤z/\z≤4000):(l.flatMap ps).length≤50*l.length:=by
 induction l with
 | nil=>simp
 | cons s r ih=>
  have h1:=ih fun x hx=>h x (by simp[hx])
  have h2:=cB7 (h s (by simp))
  simp only[List.flatMap_cons,List.length_append,List.length_cons]
  omega
theorem qM (B:Nat) (n:Nt) (w:World) (vF vI vO vK vN vC:Value) (h:gJ B w n vF vI vO vK vN vC) (hB:B≤w.heap.size) (hs:eU n) (hok:dY n=(0,-1)) (hf:gQ n.first) (hm:gQ n.nums) :
    Calls Tryz.prog 24 #[.agg #[.int .i64 n.places,vF,vI,vO,vK,vN,vC]] w fun e w'=>e=.returned (.tuple #[.string (kL (cD n)),.nilIface])/\Below w.heap.size w w':=by
 have hck:Calls Tryz.prog 29 #[.agg #[.int .i64 n.places,vF,vI,vO,vK,vN,vC]] (w.alloc (.cells #[.int .i64 n.places,vF,vI,vO,vK,vN,vC] 26)) fun e w'=>e=.returned .nilIface/\Hid (Below w.heap.size w w'/\w'.heap[w.heap.size]?=some (.cells #[.int .i64 n.places,vF,vI,vO,vK,vN,vC] 26 (0,0))):=
  (Nx.iM B n _ vF vI vO vK vN vC (h.below ((aM w _).mono hB) (Nat.le_refl _)) (by simp;omega) hs).mono fun e w' ⟨v,he,hi,hb⟩=>by
   rw[hok] at hi
   rcases hi with ⟨_,_,hv⟩|⟨h1,_⟩|⟨h1,_⟩
   ·subst hv
    refine ⟨he,iQ (aM w _) hb,?_⟩
    rw[hb.block w.heap.size (by simp)];exact heap_alloc_new w _
   ·exact absurd rfl h1
   ·exact absurd rfl h1
 have kc:=fun (w:World)=>Lib.run_convert_bytes_const (P:=Tryz.prog) w 99 5 #[.int .u8 67,.int .u8 76,.int .u8 80,.int .u8 49] 4 4 Tryz.underlying99 Tryz.underlying5
 have H:Hid (_/\_/\_/\_/\_):=⟨h,hs,hok,hf,hm⟩
 obtain ⟨adC,bC,offC,capC,rfl,hC1,hC2⟩:=h.c
 have HC:Hid (_/\_):=⟨hC1,hC2⟩
 have hcl:=hs.c
 clear h hs hok hf hm hC1 hC2
 go_enter Tryz.func24,Tryz.ntmps24
 go_upto_region 7 with (go_at_call 29;refine hck.mono ?_;rintro e w1 ⟨rfl,X⟩;clear hck)
 have X2:=aZ5 X.out.1 X.out.2
 revert X2
 generalize ((w1.alloc (.cells #[.int .u8 67,.int .u8 76,.int .u8 80,.int .u8 49] 5 (4,5))).alloc (.cells #[.slice (some ⟨w1.heap.size,0,none⟩) 4 4] 99)).alloc (.cells #[.func (.func 47) #[] #[.pointer (some ⟨w1.heap.size+1,0,none⟩)]] 101)=W0
 generalize w1.heap.size+1+1=f
 generalize w1.heap.size+1=q
 generalize (Value.slice (some ⟨w1.heap.size,0,none⟩) 4 4)=v0
 intro X2
 have S:Hid _:=X2
 clear X X2 kc
 obtain ⟨hN,hSm,hok,hf64,hm64⟩:=id H.out
 obtain ⟨hfl,⟨hp0,hp1⟩,hi64,ho64,hk64⟩:=tV hok hSm
 have hss:=hSm.s
 have hmm:=hSm.m
 have Li:(pl n.ins).length≤40010:=R9 (fun z hz=>by have:=hi64 z hz;omega) (by omega)
 have Lo:(pl n.outs).length≤40010:=R9 (fun z hz=>by have:=ho64 z hz;omega) (by omega)
 have Lk:(pl n.keeps).length≤40010:=R9 (fun z hz=>by have:=hk64 z hz;omega) (by omega)
 have Lf:=R9 hf64 hfl
 have Lm:=R9 hm64 hmm
 have Lp:(P8 n.places).length≤10:=jN (by omega) (by omega)
 have Lc:(P8 n.code.length).length≤10:=jN (by omega) (by omega)
 have G:Hid (_/\_/\_/\_/\(0≤n.places/\n.places≤4000)/\_/\_):=⟨hi64,ho64,hk64,hfl,⟨hp0,hp1⟩,hss,hmm⟩
 have LL:Hid (_/\_/\_/\_/\_/\_/\_):=⟨Li,Lo,Lk,Lf,Lm,Lp,Lc⟩
 clear hN hSm hok hf64 hm64 hfl hp0 hp1 hi64 ho64 hk64 hss hmm Li Lo Lk Lf Lm Lp Lc
 obtain ⟨rf,r0,r1,r2,r3,r4,r5,r6⟩:=S.out.reads
 have hc:=aB6 S.out n.places (by obtain ⟨a1,a2,a3,a4,a5,a6,a7⟩:=LL.out;simp<;>omega) (by have:=G.out.2.2.2.2.1;omega) (by have:=G.out.2.2.2.2.1;omega)
 go_upto_region 8 with (go_at_call 47;refine hc.mono ?_;rintro e W1 ⟨rfl,v1,S1⟩;clear hc)
 have S2:Hid _:=S1.out.1
 clear rf r0 r1 r2 r3 r4 r5 r6 S S1
 rename Hid (WS w W1 _ q f v1 ([67,76,80,49]++P8 n.places))=>S
 obtain ⟨rf,r0,r1,r2,r3,r4,r5,r6⟩:=S.out.reads
 have hc:=zP S.out vF n.first (uT S.out hB H.out.1.f).1 (uT S.out hB H.out.1.f).2 (by obtain ⟨a1,a2,a3,a4,a5,a6,a7⟩:=LL.out;simp<;>omega) G.out.2.2.2.1 H.out.2.2.2.1
 go_upto_region 9 with (go_at_call 49;refine hc.mono ?_;rintro e W2 ⟨rfl,v2,S1⟩;clear hc)
 have S2:Hid _:=S1.out
 clear rf r0 r1 r2 r3 r4 r5 r6 S S1
 rename Hid (WS w W2 _ q f v2 ([67,76,80,49]++P8 n.places++pl n.first))=>S
 obtain ⟨rf,r0,r1,r2,r3,r4,r5,r6⟩:=S.out.reads
 have hc:=zO S.out hB vI n.ins H.out.1.i (by have:=G.out.2.2.2.2.2.1;omega) (by obtain ⟨a1,a2,a3,a4,a5,a6,a7⟩:=LL.out;simp<;>omega) (fun z hz=>by have:=G.out.1 z hz;omega)
 go_upto_region 10 with (first|(go_at_call 50;refine hc.mono ?_;rintro e Wx ⟨vx,rfl,hd⟩;clear hc)|(go_at_call 49;refine hd.mono ?_;rintro e W3 ⟨rfl,v3,S1⟩;clear hd))
 have S2:Hid _:=S1.out
 clear rf r0 r1 r2 r3 r4 r5 r6 S S1
 rename Hid (WS w W3 _ q f v3 ([67,76,80,49]++P8 n.places++pl n.first++pl n.ins))=>S
 obtain ⟨rf,r0,r1,r2,r3,r4,r5,r6⟩:=S.out.reads
 have hc:=zO S.out hB vO n.outs H.out.1.o (by have:=G.out.2.2.2.2.2.1;omega) (by obtain ⟨a1,a2,a3,a4,a5,a6,a7⟩:=LL.out;simp<;>omega) (fun z hz=>by have:=G.out.2.1 z hz;omega)
 go_upto_region 11 with (first|(go_at_call 50;refine hc.mono ?_;rintro e Wx ⟨vx,rfl,hd⟩;clear hc)|(go_at_call 49;refine hd.mono ?_;rintro e W4 ⟨rfl,v4,S1⟩;clear hd))
 have S2:Hid _:=S1.out
 clear rf r0 r1 r2 r3 r4 r5 r6 S S1
 rename Hid (WS w W4 _ q f v4 ([67,76,80,49]++P8 n.places++pl n.first++pl n.ins++pl n.outs))=>S
 obtain ⟨rf,r0,r1,r2,r3,r4,r5,r6⟩:=S.out.reads
 have hc:=zO S.out hB vK n.keeps H.out.1.k (by have:=G.out.2.2.2.2.2.1;omega) (by obtain ⟨a1,a2,a3,a4,a5,a6,a7⟩:=LL.out;simp<;>omega) (fun z hz=>by have:=G.out.2.2.1 z hz;omega)
 go_upto_region 12 with (first|(go_at_call 50;refine hc.mono ?_;rintro e Wx ⟨vx,rfl,hd⟩;clear hc)|(go_at_call 49;refine hd.mono ?_;rintro e W5 ⟨rfl,v5,S1⟩;clear hd))
 have S2:Hid _:=S1.out
 clear rf r0 r1 r2 r3 r4 r5 r6 S S1
 rename Hid (WS w W5 _ q f v5 ([67,76,80,49]++P8 n.places++pl n.first++pl n.ins++pl n.outs++pl n.keeps))=>S
 obtain ⟨rf,r0,r1,r2,r3,r4,r5,r6⟩:=S.out.reads
 have hc:=zP S.out vN n.nums (uT S.out hB H.out.1.m).1 (uT S.out hB H.out.1.m).2 (by obtain ⟨a1,a2,a3,a4,a5,a6,a7⟩:=LL.out;simp<;>omega) G.out.2.2.2.2.2.2 H.out.2.2.2.2
 go_upto_region 13 with (go_at_call 49;refine hc.mono ?_;rintro e W6 ⟨rfl,v6,S1⟩;clear hc)
 have S2:Hid _:=S1.out
 clear rf r0 r1 r2 r3 r4 r5 r6 S S1
 rename Hid (WS w W6 _ q f v6 ([67,76,80,49]++P8 n.places++pl n.first++pl n.ins++pl n.outs++pl n.keeps++pl n.nums))=>S
 obtain ⟨rf,r0,r1,r2,r3,r4,r5,r6⟩:=S.out.reads
 have hc:=aB6 S.out n.code.length (by obtain ⟨a1,a2,a3,a4,a5,a6,a7⟩:=LL.out;simp<;>omega) (by omega) (by omega)
 go_upto_region 14 with (go_at_call 47;refine hc.mono ?_;rintro e W7 ⟨rfl,v7,S1⟩;clear hc)
 have S2:Hid _:=S1.out.1
 clear rf r0 r1 r2 r3 r4 r5 r6 S S1
 rename Hid (WS w W7 _ q f v7 ([67,76,80,49]++P8 n.places++pl n.first++pl n.ins++pl n.outs++pl n.keeps++pl n.nums++P8 n.code.length))=>S
 obtain ⟨rf,r0,r1,r2,r3,r4,r5,r6⟩:=S.out.reads
 go_upto_region 15 with fail
 clear rf r0 r1 r2 r3 r4 r5 r6
 go_loopw [56] (fun i wr=>∃k:Nat,k≤n.code.length/\i=.int .i64 k/\∃v,Hid (WS w wr #[.int .i64 n.places,vF,vI,vO,vK,vN,.slice adC n.code.length capC] q f v (([67,76,80,49]++P8 n.places++pl n.first++pl n.ins++pl n.outs++pl n.keeps++pl n.nums++P8 n.code.length)++(n.code.take k).flatMap ps))) (fun i _=>n.code.length-(intOf i).toNat)
 case atStart=>exact ⟨0,Nat.zero_le _,rfl,v7,by rw[List.take_zero,List.flatMap_nil,List.append_nil];exact S.out⟩
 case round=>
  clear S
  obtain ⟨k,hk,rfl,v,S0⟩:=hrel
  obtain ⟨L,hL0⟩:∃L,L=([67,76,80,49]++P8 n.places++pl n.first++pl n.ins++pl n.outs++pl n.keeps++pl n.nums++P8 n.code.length)++(n.code.take k).flatMap ps:=⟨_,rfl⟩
  have hL:Hid _:=hL0
  clear hL0
  have S:Hid (WS w wr #[.int .i64 n.places,vF,vI,vO,vK,vN,.slice adC n.code.length capC] q f v L):=by rw[hL.out];exact S0
  clear S0
  by_cases hlt:k<n.code.length
  ·have hix:=cL4 adC bC offC n.code.length capC k hlt (fun h=>(HC.out.1 h).1)
   obtain ⟨s,hsx⟩:∃s,Hid (s=n.code.getD k mH):=⟨_,rfl⟩
   obtain ⟨x0,x1,x2,x3,x4⟩:=HC.out.2 k hlt
   rw[<-hsx.out] at x0 x1 x2 x3 x4
   have hbb:wr.heap[bC]?=w.heap[bC]?:=S.out.below.block bC (by have:=(HC.out.1 (by omega)).2;omega)
   rw[<-cA hbb] at x0 x1 x2 x3 x4
   clear hbb
   obtain ⟨code,dst,a,b,c⟩:=s
   simp only at x0 x1 x2 x3 x4
   go_upto_region 17 with fail
   have W1:WS w (wr.alloc (.cells #[.int .i64 code,.int .i64 dst,.int .i64 a,.int .i64 b,.int .i64 c] 39)) _ q f v _:=S.out.more (aM wr _)
   have hto:Calls Tryz.prog 51 #[.pointer (some ⟨wr.heap.size,0,none⟩)] (wr.alloc (.cells #[.int .i64 code,.int .i64 dst,.int .i64 a,.int .i64 b,.int .i64 c] 39)) fun e w'=>∃g,e=.returned (.slice (some ⟨g,0,none⟩) (2+dJ code) 5)/\Hid (WT w w' #[.int .i64 n.places,vF,vI,vO,vK,vN,.slice adC n.code.length capC] q f v L wr.heap.size g #[.int .i64 code,.int .i64 dst,.int .i64 a,.int .i64 b,.int .i64 c]):=
    (bY8 wr.heap.size code dst a b c _ (heap_alloc_new wr _)).mono fun e w' ⟨g,he,hg,hp,hb⟩=>by
     have hq:=aB S.out.ps.var
     simp at hg
     refine ⟨g,he,⟨W1.more hb,?_,hp,fun e=>?_,fun e=>?_,by omega,by omega⟩⟩
     ·rw[hb.block wr.heap.size (by simp)];exact heap_alloc_new wr _
     ·have:=(S.out.ps.bys.lt _ e).2;omega
     ·have:=(S.out.ps.bys.lt _ e).2;omega
   obtain ⟨sb,hsb⟩:∃sb,sb=wr.heap.size:=⟨_,rfl⟩
   rw[<-hsb] at hto
   obtain ⟨m,hm⟩:∃m,m=2+dJ code:=⟨_,rfl⟩
   rw[<-hm] at hto
   have hm5:m≤5:=by have:=V0 code;omega
   have hnk:n.code[k]?=some ⟨code,dst,a,b,c⟩:=by
    have:=hsx.out
    rw[List.getD_eq_getElem?_getD,List.getElem?_eq_getElem hlt] at this
    rw[List.getElem?_eq_getElem hlt,this];rfl
   have htold:∀z∈eK ⟨code,dst,a,b,c⟩,0≤z/\z≤4000:=wZ H.out.2.2.1 H.out.2.1 _ (List.mem_of_getElem? hnk)
   have hLk:L.length≤500000:=by
    have:=aW9 (l:=n.code.take k) fun s hs=>wZ H.out.2.2.1 H.out.2.1 s (List.mem_of_mem_take hs)
    have h2:(n.code.take k).length≤n.code.length:=by simp;omega
    obtain ⟨a1,a2,a3,a4,a5,a6,a7⟩:=LL.out
    rw[hL.out]
    simp only[List.length_append,List.length_cons,List.length_nil]
    omega
   have HM:Hid (_/\_/\_/\_):=⟨hm,hnk,htold,hLk⟩
   clear W1 S x0 x1 x2 x3 x4 hix hm hnk htold hLk hsx
   go_upto_region 18 with (go_at_call 51;rw[<-hsb];refine hto.mono ?_;rintro e w2 ⟨g,rfl,S⟩;clear hto)
   have HSB:Hid _:=hsb
   clear hsb
   go_loopw [62] (fun i wy=>∃j:Nat,j≤m/\i=.int .i64 j/\∃v,Hid (WT w wy #[.int .i64 n.places,vF,vI,vO,vK,vN,.slice adC n.code.length capC] q f v (L++((eK ⟨code,dst,a,b,c⟩).take j).flatMap P8) sb g #[.int .i64 code,.int .i64 dst,.int .i64 a,.int .i64 b,.int .i64 c])) (fun i _=>m-(intOf i).toNat)
   case atStart=>exact ⟨0,Nat.zero_le _,rfl,v,by rw[List.take_zero,List.flatMap_nil,List.append_nil];exact S.out⟩
   case round=>
    clear S
    rename World=>wy
    obtain ⟨j,hj,rfl,v,S⟩:=hrel
    obtain ⟨L2,hL2⟩:∃L2,Hid (L2=L++((eK ⟨code,dst,a,b,c⟩).take j).flatMap P8):=⟨_,rfl⟩
    rw[<-hL2.out] at S
    by_cases hjm:j<m
    ·have hix:=Eh g m j hjm
     obtain ⟨x,hx⟩:∃x,Hid (x=(eK ⟨code,dst,a,b,c⟩).getD j 0):=⟨_,rfl⟩
     have cp:=R7 S.out.pt j (by omega)
     have cx:=yH S.out.st j (by have:=HM.out.1;omega)
     rw[<-hx.out] at cx
     have cf:=(dD S.out.ws.fn 0 _ rfl).1
     unfold aS1 at cf
     have hx64:-9223372036854775808≤x/\x≤9223372036854775807:=by
      have hjl:j<(eK ⟨code,dst,a,b,c⟩).length:=by rw[oO];have:=HM.out.1;show j<2+dJ code;omega
      have:=HM.out.2.2.1 x (by rw[hx.out,List.getD_eq_getElem?_getD,List.getElem?_eq_getElem hjl];exact List.getElem_mem hjl)
      omega
     have hl2:L2.length≤1000000000:=by
      have h1:=aE8 ((eK ⟨code,dst,a,b,c⟩).take j) fun z hz=>by have:=HM.out.2.2.1 z (List.mem_of_mem_take hz);omega
      have h2:((eK ⟨code,dst,a,b,c⟩).take j).length≤j:=by simp;omega
      have h3:=HM.out.2.2.2
      rw[hL2.out,List.length_append]
      omega
     have hc:Calls Tryz.prog 47 #[.int .i64 x,.pointer (some ⟨q,0,none⟩)] wy.drew fun e W'=>e=.returned (.tuple #[])/\∃v',Hid (WT w W' #[.int .i64 n.places,vF,vI,vO,vK,vN,.slice adC n.code.length capC] q f v' (L2++P8 x) sb g #[.int .i64 code,.int .i64 dst,.int .i64 a,.int .i64 b,.int .i64 c])/\(W'.cell? ⟨f,0,none⟩=some (.func (.func 47) #[] #[.pointer (some ⟨q,0,none⟩)])/\W'.cell? ⟨sb,j,none⟩=some (.int .i64 x)):=
      (cA0 S.out x hl2 hx64.1 hx64.2).mono fun e W' ⟨he,v',X⟩=>⟨he,v',X,(dD X.out.ws.fn 0 _ rfl).1,by rw[hx.out];exact yH X.out.st j (by have:=HM.out.1;omega)⟩
     have cf':=cf
     clear cf S hx64 hl2
     go_upto_region 20 with fail
     go_region_held3 (fun w'=>w'.cell? ⟨f,0,none⟩=some (.func (.func 47) #[] #[.pointer (some ⟨q,0,none⟩)])/\w'.cell? ⟨sb,j,none⟩=some (.int .i64 x)) (first|exact hS2|exact ⟨cf',cx⟩|go_keep)
      ((first|(go_at_call 47;refine hc.mono ?_;rintro e w5 ⟨rfl,v5,S5,hS2⟩;clear hc)|fail))
     all_goals
      go_wp2_with fail
      go_roundw
      case rel=>
       refine ⟨j+1,by omega,by go_num,v5,?_⟩
       have hjl:j<(eK ⟨code,dst,a,b,c⟩).length:=by rw[oO];have:=HM.out.1;show j<2+dJ code;omega
       have e:((eK ⟨code,dst,a,b,c⟩).take (j+1)).flatMap P8=((eK ⟨code,dst,a,b,c⟩).take j).flatMap P8++P8 x:=by
        rw[List.take_add_one,List.flatMap_append,hx.out,List.getD_eq_getElem?_getD,List.getElem?_eq_getElem hjl]
        simp
       rw[e,<-List.append_assoc,<-hL2.out]
       exact S5.out
      case measure=>simp[intOf];omega
    ·obtain rfl:j=m:=by omega
     go_wp2_with fail
     go_roundw
     case rel=>
      refine ⟨k+1,by omega,by go_num,v,?_⟩
      have e1:(eK ⟨code,dst,a,b,c⟩).take j=eK ⟨code,dst,a,b,c⟩:=by
       rw[List.take_of_length_le]
       rw[oO]
       have:=HM.out.1
       show 2+dJ code≤j
       omega
      have e2:(n.code.take (k+1)).flatMap ps=(n.code.take k).flatMap ps++ps ⟨code,dst,a,b,c⟩:=by
       rw[List.take_add_one,List.flatMap_append,HM.out.2.1]
       simp
      have e3:L2=([67,76,80,49]++P8 n.places++pl n.first++pl n.ins++pl n.outs++pl n.keeps++pl n.nums++P8 n.code.length)++(n.code.take (k+1)).flatMap ps:=by
       rw[hL2.out,e1,e2,hL.out,List.append_assoc]
       rfl
      rw[<-e3]
      exact S.out.ws
     case measure=>simp[intOf];omega
  ·obtain rfl:k=n.code.length:=by omega
   have hq:=(dD S.out.ps.var 0 _ rfl).1
   have hstr:=xE S.out.ps.bys
   obtain ⟨T,hT⟩:∃T,Hid (T=kL L):=⟨_,rfl⟩
   change _=Result.ok (Value.string (kL L)) _ at hstr
   rw[<-hT.out] at hstr
   obtain ⟨ao,cap,hv⟩:=S.out.ps.bys.shape
   obtain ⟨N,hN⟩:∃N,Hid (N=L.length):=⟨_,rfl⟩
   rw[<-hN.out] at hv
   subst hv
   go_wp2_with fail
   go_ret2
   refine ⟨?_,S.out.below⟩
   rw[show cD n=L by rw[hL.out,List.take_length];rfl,<-hT.out]
   rfl
end Ix
end
section
open Go.RowKit
namespace Ix
open Nx
theorem cQ3 (g:Nat) (w:World):(Instr.sliceAt 104 (.slice (some ⟨g,0,none⟩) 2 5) (some (.int .i64 1)) none none).run Tryz.prog w=.ok (.slice (some ⟨g,1,none⟩) 1 4) w:=by kernel_rfl
theorem cQ2 (g:Nat) (w:World):(Instr.sliceAt 104 (.slice (some ⟨g,0,none⟩) 3 5) (some (.int .i64 1)) none none).run Tryz.prog w=.ok (.slice (some ⟨g,1,none⟩) 2 4) w:=by kernel_rfl
theorem cQ1 (g:Nat) (w:World):(Instr.sliceAt 104 (.slice (some ⟨g,0,none⟩) 4 5) (some (.int .i64 1)) none none).run Tryz.prog w=.ok (.slice (some ⟨g,1,none⟩) 3 4) w:=by kernel_rfl
theorem cQ0 (g:Nat) (w:World):(Instr.sliceAt 104 (.slice (some ⟨g,0,none⟩) 5 5) (some (.int .i64 1)) none none).run Tryz.prog w=.ok (.slice (some ⟨g,1,none⟩) 4 4) w:=by kernel_rfl
theorem Dw (g M m:Nat) (h:M=m+1) (h1:1≤m) (h4:m≤4) (w:World):(Instr.sliceAt 104 (.slice (some ⟨g,0,none⟩) M 5) (some (.int .i64 1)) none none).run Tryz.prog w=.ok (.slice (some ⟨g,1,none⟩) m 4) w:=by
 have hm:m=1\/m=2\/m=3\/m=4:=by omega
 subst h
 rcases hm with rfl|rfl|rfl|rfl
 ·exact cQ3 g w
 ·exact cQ2 g w
 ·exact cQ1 g w
 ·exact cQ0 g w
theorem Eg (g m k:Nat) (hk:k<m) (w:World):(Instr.indexAt 104 (.slice (some ⟨g,1,none⟩) m 4) (.int .i64 (k:Int))).run Tryz.prog w=.ok (.pointer (some ⟨g,1+k,none⟩)) w:=by
 rw[run_indexAt_slice _ _ _ _ _ _ _ (by kernel_rfl),if_pos ⟨by omega,by omega⟩]
 have e:(sizeOf (Tryz.prog.elem 104)).run Tryz.prog w=.ok 1 w:=by kernel_rfl
 rw[e]
 simp[Result.andThen,Addr.add]
theorem cK3 {W:World}{g:Nat}{fc:Array Value}(hsz:fc.size=5) (hg:W.heap[g]?=some (.cells fc 39 (0,0))):(loadVar 39 ⟨g,0,none⟩).run Tryz.prog W=.ok (.agg fc) W:=
 run_loadVar_row (P:=Tryz.prog) W g 39 39 fc (0,0) _ hg Tryz.underlying39 rfl (by rw[hsz];kernel_rfl)
theorem bC9 (tmps:Array Value) (W:World) (e:Nat) (fe:Array Value) (hse:fe.size=5) (hq:tmps[2]?.getD undef=.pointer (some ⟨e,0,none⟩)) (he:W.heap[e]?=some (.cells fe 39 (0,0))) :
    (results Tryz.f86 tmps).run Tryz.prog W=.ok (.agg fe) W:=by
 simp[results,Tryz.results86,hq,asAddr,cK3 hse he]
def five (c:Int) (l:List Int):Array Value:=#[.int .i64 c,.int .i64 (l.getD 0 0),.int .i64 (l.getD 1 0),.int .i64 (l.getD 2 0),.int .i64 (l.getD 3 0)]
theorem bK2 (c:Int) (l:List Int) (k:Nat) (hk:l.length=k) (h4:k<4) (z:Int):(five c l).setIfInBounds (1+k) (.int .i64 z)=five c (l++[z]):=by
 have hm:k=0\/k=1\/k=2\/k=3:=by omega
 unfold five
 rcases hm with rfl|rfl|rfl|rfl
 ·match l,hk with
  | [],_=>rfl
 ·match l,hk with
  | [_],_=>rfl
 ·match l,hk with
  | [_,_],_=>rfl
 ·match l,hk with
  | [_,_,_],_=>rfl
structure SS (w W:World) (b sb g:Nat) (c:Int) (r:List UInt8) (bad:Bool) (k:Nat) (l:List Int) (s':List UInt8) (bad':Bool):Prop where
 st:W.heap[sb]?=some (.cells (five c l) 39 (0,0))
 pt:W.heap[g]?=some (.cells (bD7 sb) 107 (0,0))
 rb:W.heap[w.heap.size]?=some (.cells (five 0 []) 39 (0,0))
 len:l.length=k
 rd:lA W b s' bad'
 fr:Fr w.heap.size [b] w W
 short:s'.length≤r.length
 took:(mA sm r k=some (l,s')/\bad'=bad)\/(mA sm r k=none/\s'=[]/\bad'=true)
theorem SS.step {w W W1:World}{b sb g:Nat}{c:Int}{r:List UInt8}{bad:Bool}{k:Nat}{l:List Int}{s' s2:List UInt8}{bad' bad2:Bool}{z:Int}(h:SS w W b sb g c r bad k l s' bad') (hbw:b<w.heap.size) (hsb:w.heap.size<sb) (hg:w.heap.size≤g) (hgs:g≠sb) (hk:k<4)
    (hr:lA W1 b s2 bad2) (hf:Fr W.heap.size [b] W W1) (hs:s2.length≤s'.length) (ht:(sm s'=some (z,s2)/\bad2=bad')\/(sm s'=none/\s2=[]/\bad2=true)) :
    SS w (W1.setCell ⟨sb,1+k,none⟩ (.int .i64 z)) b sb g c r bad (k+1) (l++[z]) s2 bad2:=by
 have hw:=h.fr.size
 have k1:W1.heap[sb]?=some (.cells (five c l) 39 (0,0)):=by rw[hf.block sb (aB h.st) (by simp;omega)];exact h.st
 have k2:W1.heap[g]?=some (.cells (bD7 sb) 107 (0,0)):=by rw[hf.block g (aB h.pt) (by simp;omega)];exact h.pt
 have k3:W1.heap[w.heap.size]?=some (.cells (five 0 []) 39 (0,0)):=by rw[hf.block _ (aB h.rb) (by simp;omega)];exact h.rb
 refine ⟨?_,?_,?_,by simp[h.len],?_,?_,Nat.le_trans hs h.short,?_⟩
 ·rw[<-bK2 c l k h.len hk];exact aB0 k1 _ _
 ·rw[Below.heap_setCell _ _ _ _ hgs];exact k2
 ·rw[Below.heap_setCell _ _ _ _ (by simp;omega)];exact k3
 ·unfold lA;rw[Below.heap_setCell _ _ _ _ (by simp;omega)];exact hr
 ·exact (h.fr.trans (hf.mono hw (fun x hx _=>hx))).setCell (.inl (by simp;omega)) _
 ·rcases h.took with ⟨h1,rfl⟩|⟨h1,rfl,rfl⟩
  ·rcases ht with ⟨h2,rfl⟩|⟨h2,rfl,rfl⟩
   ·exact .inl ⟨vB sm h1 h2,rfl⟩
   ·exact .inr ⟨vD sm h1 h2,rfl,rfl⟩
  ·right
   rcases ht with ⟨h2,_⟩|⟨_,h3,h4⟩
   ·rw[cB0] at h2;cases h2
   ·exact ⟨qT sm h1,h3,h4⟩
theorem aQ2 (b:Nat) (s:List UInt8) (bad:Bool) (w:World) (h:lA w b s bad) (hs:s.length≤1000000000) :
    Calls Tryz.prog 86 #[.pointer (some ⟨b,0,none⟩)] w fun e w'=>∃x:Sp,∃s' bad',e=.returned (.agg #[.int .i64 x.code,.int .i64 x.dst,.int .i64 x.a,.int .i64 x.b,.int .i64 x.c])/\Hid (lA w' b s' bad'/\Fr w.heap.size [b] w w'/\s'.length≤s.length/\((tO s=some (x,s')/\bad'=bad)\/(tO s=none/\s'=[]/\bad'=true))):=by
 have hbw:=aB h
 have h0:lA (w.alloc (.cells #[.int .i64 0,.int .i64 0,.int .i64 0,.int .i64 0,.int .i64 0] 39)) b s bad:=by unfold lA;rw[Below.heap_alloc _ _ _ hbw];exact h
 have hsm:=jI b s bad _ h0 hs
 clear h h0
 go_enter Tryz.func86,Tryz.ntmps86
 go_upto_region 2 with (go_at_call 83;refine hsm.mono ?_;rintro e w1 ⟨c,r,bad1,rfl,hc,X⟩;clear hsm)
 have hsb:w.heap.size<w1.heap.size:=by have:=X.out.2.1.size;simp at this;omega
 have hb1:=aB X.out.1
 obtain ⟨m,hm⟩:∃m,m=1+dJ (c:Int):=⟨_,rfl⟩
 obtain ⟨M,hM⟩:∃M,M=2+dJ (c:Int):=⟨_,rfl⟩
 have hm3:=V0 (c:Int)
 have hto:Calls Tryz.prog 51 #[.pointer (some ⟨w1.heap.size,0,none⟩)] (w1.alloc (.cells #[.int .i64 c,.int .i64 0,.int .i64 0,.int .i64 0,.int .i64 0] 39)) fun e w'=>∃g,e=.returned (.slice (some ⟨g,0,none⟩) M 5)/\Hid (w1.heap.size<g/\SS w w' b w1.heap.size g c r bad1 0 [] r bad1):=by
  refine (bY8 w1.heap.size c 0 0 0 0 _ (heap_alloc_new w1 _)).mono fun e w' ⟨g,he,hg,hp,hb⟩=>⟨g,by rw[he,hM],?_,?_⟩
  ·simp at hg;omega
  ·refine ⟨?_,hp,?_,rfl,?_,?_,Nat.le_refl _,.inl ⟨rfl,rfl⟩⟩
   ·rw[hb.block _ (by simp)];exact heap_alloc_new w1 _
   ·rw[hb.block _ (by simp;omega),Below.heap_alloc _ _ _ hsb,X.out.2.1.block w.heap.size (by simp) (by simp;omega)];exact heap_alloc_new w _
   ·unfold lA
    rw[hb.block _ (by simp;omega),Below.heap_alloc _ _ _ hb1];exact X.out.1
   ·have f1:Fr w.heap.size [b] w w1:=((Fr.refl _ _ _).alloc (Nat.le_refl _) _).trans (X.out.2.1.mono (by simp) (fun x hx _=>hx))
    exact (f1.alloc (by omega) _).trans (Fr.of_below (hb.mono (by simp;omega)) _)
 have HM:Hid (_/\_):=⟨hm,hm3⟩
 have hMm:M=m+1:=by omega
 have hm1:1≤m:=by omega
 have hm4:m≤4:=by omega
 have hsl:=fun g=>Dw g M m hMm hm1 hm4
 have HMM:Hid _:=hMm
 clear hm hM hm3 hMm
 revert hto
 generalize w1.alloc (.cells #[.int .i64 c,.int .i64 0,.int .i64 0,.int .i64 0,.int .i64 0] 39)=Wq
 obtain ⟨sb,hsbe⟩:∃sb,sb=w1.heap.size:=⟨_,rfl⟩
 rw[<-hsbe] at hsb ⊢
 intro hto
 clear hsbe
 go_upto_region 3 with (go_at_call 51;refine hto.mono ?_;rintro e w2 ⟨g,rfl,S0⟩;clear hto)
 clear hsl
 go_loopw [12] (fun i wr=>∃k:Nat,k≤m/\i=.int .i64 k/\∃l s' bad',Hid (SS w wr b sb g c r bad1 k l s' bad')) (fun i _=>m-(intOf i).toNat)
 case atStart=>exact ⟨0,Nat.zero_le _,rfl,[],r,bad1,S0.out.2⟩
 case round=>
  obtain ⟨k,hk,rfl,l,s',bad',S⟩:=hrel
  have HG:Hid _:=S0.out.1
  clear S0
  by_cases hlt:k<m
  ·have hix:=Eg g m k hlt
   have cp:=R7 S.out.pt (1+k) (by omega)
   have hn:Calls Tryz.prog 83 #[.pointer (some ⟨b,0,none⟩)] wr fun e w'=>∃z s2 bad2,e=.returned (.int .i64 z)/\(∃y,w'.cell? ⟨sb,1+k,none⟩=some y)/\w'.frozen? ⟨sb,1+k,none⟩=false/\Hid (lA w' b s2 bad2/\Fr wr.heap.size [b] wr w'/\s2.length≤s'.length/\((sm s'=some (z,s2)/\bad2=bad')\/(sm s'=none/\s2=[]/\bad2=true))):=
    (jI b s' bad' wr S.out.rd (by have:=S.out.short;have:=X.out.2.2.1;omega)).mono fun e w' ⟨z,s2,bad2,he,_,Z⟩=>by
     have hst:w'.heap[sb]?=some (.cells (five c l) 39 (0,0)):=by rw[Z.out.2.1.block sb (aB S.out.st) (by simp;omega)];exact S.out.st
     refine ⟨(z:Int),s2,bad2,he,⟨(five c l)[1+k]'(by show 1+k<5;omega),?_⟩,(by simp[World.frozen?,hst]),Z.out.1,Z.out.2.1,Z.out.2.2.1,Z.out.2.2.2.imp id fun h=>⟨h.1,h.2.2⟩⟩
     rw[cell_of_row _ _ _ _ _ _ hst]
     exact Array.getElem?_eq_getElem _
   go_wp2_with (go_at_call 83;refine hn.mono ?_;rintro e w3 ⟨z,s2,bad2,rfl,⟨y,cy⟩,fy,Z⟩;clear hn)
   go_roundw
   case rel=>exact ⟨k+1,by omega,by go_num,l++[z],s2,bad2,S.out.step hbw hsb (by have:=HG.out;omega) (by have:=HG.out;omega) (by omega) Z.out.1 Z.out.2.1 Z.out.2.2.1 Z.out.2.2.2⟩
   case measure=>simp[intOf];omega
  ·obtain rfl:k=m:=by omega
   have q0:wr.cell? ⟨sb,0,none⟩=some (.int .i64 c):=(dD S.out.st 0 _ rfl).1
   have q1:wr.cell? ⟨sb,1,none⟩=some (.int .i64 (l.getD 0 0)):=(dD S.out.st 1 _ rfl).1
   have q2:wr.cell? ⟨sb,2,none⟩=some (.int .i64 (l.getD 1 0)):=(dD S.out.st 2 _ rfl).1
   have q3:wr.cell? ⟨sb,3,none⟩=some (.int .i64 (l.getD 2 0)):=(dD S.out.st 3 _ rfl).1
   have q4:wr.cell? ⟨sb,4,none⟩=some (.int .i64 (l.getD 3 0)):=(dD S.out.st 4 _ rfl).1
   obtain ⟨p0,f0⟩:=dD S.out.rb 0 (.int .i64 0) rfl
   obtain ⟨p1,f1⟩:=dD S.out.rb 1 (.int .i64 0) rfl
   obtain ⟨p2,f2⟩:=dD S.out.rb 2 (.int .i64 0) rfl
   obtain ⟨p3,f3⟩:=dD S.out.rb 3 (.int .i64 0) rfl
   obtain ⟨p4,f4⟩:=dD S.out.rb 4 (.int .i64 0) rfl
   obtain ⟨x1,hx1⟩:∃x,Hid (x=l.getD 0 0):=⟨_,rfl⟩
   obtain ⟨x2,hx2⟩:∃x,Hid (x=l.getD 1 0):=⟨_,rfl⟩
   obtain ⟨x3,hx3⟩:∃x,Hid (x=l.getD 2 0):=⟨_,rfl⟩
   obtain ⟨x4,hx4⟩:∃x,Hid (x=l.getD 3 0):=⟨_,rfl⟩
   rw[<-hx1.out] at q1
   rw[<-hx2.out] at q2
   rw[<-hx3.out] at q3
   rw[<-hx4.out] at q4
   go_wp2_with fail
   refine bodyPost_ret (bC9 _ _ w.heap.size #[.int .i64 c,.int .i64 x1,.int .i64 x2,.int .i64 x3,.int .i64 x4] rfl rfl (aB0 (aB0 (aB0 (aB0 (aB0 S.out.rb 0 _) 1 _) 2 _) 3 _) 4 _)) rfl ?_
   refine ⟨⟨c,x1,x2,x3,x4⟩,s',bad',rfl,?_,?_,Nat.le_trans S.out.short X.out.2.2.1,?_⟩
   ·unfold lA
    rw[Below.heap_setCell _ _ _ _ (by simp;omega),Below.heap_setCell _ _ _ _ (by simp;omega),Below.heap_setCell _ _ _ _ (by simp;omega),Below.heap_setCell _ _ _ _ (by simp;omega),Below.heap_setCell _ _ _ _ (by simp;omega)]
    exact S.out.rd
   ·exact ((((S.out.fr.setCell (.inl (by simp)) _).setCell (.inl (by simp)) _).setCell (.inl (by simp)) _).setCell (.inl (by simp)) _).setCell (.inl (by simp)) _
   ·unfold tO
    rcases X.out.2.2.2 with ⟨y1,y2⟩|⟨y1,y2,y3,y4⟩
    ·simp only[y1]
     rw[<-HM.out.1,<-y2]
     rcases S.out.took with ⟨z1,z2⟩|⟨z1,z2,z3⟩
     ·left
      simp only[z1]
      exact ⟨by rw[hx1.out,hx2.out,hx3.out,hx4.out],z2⟩
     ·right
      simp only[z1]
      exact ⟨trivial,z2,z3⟩
    ·simp only[y1]
     right
     refine ⟨trivial,?_⟩
     rcases S.out.took with ⟨z1,z2⟩|⟨z1,z2,z3⟩
     ·exfalso
      rw[y3] at z1
      have:=bZ4 sm (s:=[]) (k:=1) (m:=k) (by rfl) (by omega)
      rw[this] at z1
      cases z1
     ·exact ⟨z2,z3⟩
end Ix
end
end Go.Proofs.YtcdbhoknhnimcaaGreatDoor
