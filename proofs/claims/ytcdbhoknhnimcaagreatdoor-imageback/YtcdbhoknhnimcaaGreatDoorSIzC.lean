import Derived.Test.YtcdbhoknhnimcaaGreatDoorSIo
import Derived.Test.YtcdbhoknhnimcaaGreatDoorSNtB
import Derived.Test.YtcdbhoknhnimcaaGreatDoorSIa
import Derived.Test.YtcdbhoknhnimcaaGreatDoorSIf
set_option maxHeartbeats 4000000
namespace Go.Proofs.YtcdbhoknhnimcaaGreatDoor
section
open Go.RowKit
namespace Ix
open Nx
def hd4:List UInt8:=[67,76,80,49]
theorem aL4 (s:List UInt8):hd4.isPrefixOf s=true↔s.take 4=hd4:=by
 rw[List.isPrefixOf_iff_prefix,List.prefix_iff_eq_take]
 exact ⟨fun h=>h.symm,fun h=>h.symm⟩
theorem aM8:(⟨#[67,76,80,49]⟩:ByteArray).toList=[67,76,80,49]:=by decide +kernel
theorem cF8 (s:List UInt8) (w:World) (h:s.take 4≠hd4) :
    Calls Tryz.prog 45 #[.string (kL s),.string ⟨#[67,76,80,49]⟩] w fun e w'=>e=.returned (.tuple #[.string (kL s),.bool false])/\w'=w:=by
 obtain ⟨T,hT⟩:∃T,T=kL s:=⟨_,rfl⟩
 rw[<-hT]
 by_cases h4:4≤T.size
 ·obtain ⟨T4,hT4⟩:∃T4,T4=T.extract 0 4:=⟨_,rfl⟩
  have hne:(T4.toList==(⟨#[67,76,80,49]⟩:ByteArray).toList)=false:=by
   refine (Lib.bytes_beq_false_iff _ _).2 fun e=>h ?_
   have e2:kL (s.take 4)=kL hd4:=by rw[<-vM,<-hT,<-hT4,e];rfl
   exact zZ e2
  rw[aM8] at hne
  have hsl:∀W,(Instr.sliceAt 9 (.string T) none (some (.int .i64 4)) none).run Tryz.prog W=.ok (.string T4) W:=fun W=>by
   rw[run_sliceAt_string W _ _ _ _ _ Tryz.underlying9,run_slice_string_h W _ T Tryz.underlying9 .i64 4 (by omega) (by omega),hT4]
   rfl
  have h4':(4:Int)≤(T.size:Int):=by omega
  clear hT hT4 h
  go_enter Tryz.func45,Tryz.ntmps45
  go_wp2_with go_in
  go_ret2
  exact ⟨rfl,rfl⟩
 ·have h4':(T.size:Int)<4:=by omega
  clear hT h
  go_enter Tryz.func45,Tryz.ntmps45
  go_wp2_with go_in
  go_ret2
  exact ⟨rfl,rfl⟩
theorem bW0 (s:List UInt8) (w:World) (h:s.take 4=hd4) :
    Calls Tryz.prog 45 #[.string (kL s),.string ⟨#[67,76,80,49]⟩] w fun e w'=>e=.returned (.tuple #[.string (kL (s.drop 4)),.bool true])/\w'=w:=by
 obtain ⟨T,hT⟩:∃T,T=kL s:=⟨_,rfl⟩
 rw[<-hT]
 have h4:4≤T.size:=by
  have:=congrArg List.length h
  rw[List.length_take] at this
  rw[hT,qY]
  have:min 4 s.length=4:=this
  omega
 obtain ⟨T4,hT4⟩:∃T4,T4=T.extract 0 4:=⟨_,rfl⟩
 obtain ⟨T5,hT5⟩:∃T5,T5=kL (s.drop 4):=⟨_,rfl⟩
 rw[<-hT5]
 have hye:(T4.toList==(⟨#[67,76,80,49]⟩:ByteArray).toList)=true:=by
  refine (Lib.bytes_beq_iff _ _).2 ?_
  rw[hT4,hT,vM,h]
  rfl
 rw[aM8] at hye
 have hsl:∀W,(Instr.sliceAt 9 (.string T) none (some (.int .i64 4)) none).run Tryz.prog W=.ok (.string T4) W:=fun W=>by
  rw[run_sliceAt_string W _ _ _ _ _ Tryz.underlying9,run_slice_string_h W _ T Tryz.underlying9 .i64 4 (by omega) (by omega),hT4]
  rfl
 have hsl2:∀W,(Instr.sliceAt 9 (.string T) (some (.int .i64 4)) none none).run Tryz.prog W=.ok (.string T5) W:=fun W=>by
  rw[run_sliceAt_string W _ _ _ _ _ Tryz.underlying9,run_slice_string_l W _ T Tryz.underlying9 .i64 4 (by omega) (by omega),hT5,hT]
  exact congrArg (fun x=>Result.ok (Value.string x) W) (O4 s 4)
 have h4':(4:Int)≤(T.size:Int):=by omega
 clear hT hT4 h hT5
 go_enter Tryz.func45,Tryz.ntmps45
 go_wp2_with go_in
 go_ret2
 exact ⟨rfl,rfl⟩
theorem nQ (tmps:Array Value) (W:World) (e:Nat) (fe:Array Value) (v:Value) (hse:fe.size=7) (ht:tmps[3]?.getD undef=v) (hq:tmps[2]?.getD undef=.pointer (some ⟨e,0,none⟩)) (he:W.heap[e]?=some (.cells fe 26 (0,0))) :
    (results Tryz.f23 tmps).run Tryz.prog W=.ok (.tuple #[.agg fe,v]) W:=by
 have hl:(loadVar 26 ⟨e,0,none⟩).run Tryz.prog W=.ok (.agg fe) W:=run_loadVar_row (P:=Tryz.prog) W e 26 26 fe (0,0) _ he Tryz.underlying26 rfl (by rw[hse];kernel_rfl)
 simp[results,Tryz.results23,ht,hq,asAddr,hl]
theorem bT6 (B:Nat) (w:World):gJ B w Bf (.slice none 0 0) (.slice none 0 0) (.slice none 0 0) (.slice none 0 0) (.slice none 0 0) (.slice none 0 0):=
 have hI:cY (· < B) w (.slice none 0 0) []:=⟨none,0,0,0,rfl,fun h=>by simp at h,fun k hk=>by simp at hk⟩
 ⟨hI,hI,hI,hI,hI,⟨none,0,0,0,rfl,fun h=>by simp[Bf] at h,fun k hk=>by simp[Bf] at hk⟩⟩
def jO (w:World) (n:Nt) (f:Nat×Int) (e:Ending) (w':World):Prop:=∃vF vI vO vK vN vC v,e=.returned (.tuple #[.agg #[.int .i64 n.places,vF,vI,vO,vK,vN,vC],v])/\gJ w'.heap.size w' n vF vI vO vK vN vC/\(∃ad cap,vI=.slice ad n.ins.length cap/\n.ins.length≤cap)/\aN7 w.heap.size w' v f/\Below w.heap.size w w'
theorem aL0 (s:List UInt8) (w:World) (h:s.take 4≠hd4):Calls Tryz.prog 23 #[.string (kL s)] w (jO w Bf (3,-1)):=by
 have hc:=fun W=>cF8 s W h
 obtain ⟨T,hT⟩:∃T,T=kL s:=⟨_,rfl⟩
 rw[<-hT] at hc ⊢
 have hrb:(w.alloc (.cells #[.int .i64 0,.slice none 0 0,.slice none 0 0,.slice none 0 0,.slice none 0 0,.slice none 0 0,.slice none 0 0] 26)).heap[w.heap.size]?=some (.cells #[.int .i64 0,.slice none 0 0,.slice none 0 0,.slice none 0 0,.slice none 0 0,.slice none 0 0,.slice none 0 0] 26 (0,0)):=heap_alloc_new w _
 clear hT h
 go_enter Tryz.func23,Tryz.ntmps23
 go_wp2_with (go_at_call 45;refine (hc _).mono ?_;rintro e w1 ⟨rfl,hw⟩;obtain rfl:=hw.symm)
 refine bodyPost_ret (nQ _ _ w.heap.size _ _ rfl rfl rfl hrb) rfl ?_
 exact ⟨_,_,_,_,_,_,_,rfl,bT6 _ _,⟨none,0,rfl,Nat.le_refl _⟩,.inr (.inl ⟨by decide,rfl,rfl⟩),aM w _⟩
structure RW (w W:World) (b:Nat) (s:List UInt8) (bad:Bool):Prop where
 rb:W.heap[w.heap.size]?=some (.cells #[.int .i64 0,.slice none 0 0,.slice none 0 0,.slice none 0 0,.slice none 0 0,.slice none 0 0,.slice none 0 0] 26 (0,0))
 rd:lA W b s bad
 below:Below w.heap.size w W
 lb:w.heap.size<b
theorem bZ9 (s:List UInt8) (w:World) (h:s.take 4=hd4) (hs:s.length≤1000000000) (hsm:∀n r,vZ (s.drop 4)=some (n,r)->eU n):Calls Tryz.prog 23 #[.string (kL s)] w fun e w'=>jO w (dS s).1 (dS s).2 e w':=by
 have hc:=fun W=>bW0 s W h
 obtain ⟨T,hT⟩:∃T,T=kL s:=⟨_,rfl⟩
 obtain ⟨T5,hT5⟩:∃T5,T5=kL (s.drop 4):=⟨_,rfl⟩
 rw[<-hT,<-hT5] at hc
 rw[<-hT]
 have hl5:(s.drop 4).length≤1000000000:=by simp;omega
 have hpre:hd4.isPrefixOf s=true:=(aL4 s).2 h
 have hW:∀W,W=(w.alloc (.cells #[.int .i64 0,.slice none 0 0,.slice none 0 0,.slice none 0 0,.slice none 0 0,.slice none 0 0,.slice none 0 0] 26)).alloc (.cells #[.string T5,.bool false] 97)->RW w W (w.heap.size+1) (s.drop 4) false:=fun W hW=>by
  subst hW
  refine ⟨?_,?_,kJ (aM w _) _,by omega⟩
  ·rw[Below.heap_alloc _ _ _ (by simp)];exact heap_alloc_new w _
  ·unfold lA;rw[<-hT5];exact bY7 _ _ _
 clear hT hT5
 go_enter Tryz.func23,Tryz.ntmps23
 go_upto_region 5 with (go_at_call 45;refine (hc _).mono ?_;rintro e w1 ⟨rfl,hw⟩;obtain rfl:=hw.symm)
 have S0:=hW _ rfl
 revert S0
 generalize (w.alloc (.cells #[.int .i64 0,.slice none 0 0,.slice none 0 0,.slice none 0 0,.slice none 0 0,.slice none 0 0,.slice none 0 0] 26)).alloc (.cells #[.string T5,.bool false] 97)=W0
 obtain ⟨b,hb⟩:∃b,b=w.heap.size+1:=⟨_,rfl⟩
 rw[<-hb]
 intro S0
 have S:Hid _:=S0
 have hcode:Calls Tryz.prog 46 #[.pointer (some ⟨b,0,none⟩)] W0 fun e w'=>∃n:Nt,∃aF cF aI cI aO cO aK cK aN cN aC cC s' bad',e=.returned (.agg #[.int .i64 n.places,.slice aF n.first.length cF,.slice aI n.ins.length cI,.slice aO n.outs.length cO,.slice aK n.keeps.length cK,.slice aN n.nums.length cN,.slice aC n.code.length cC])/\Hid (RW w w' b s' bad'/\(∀W',w'.heap.size≤W'.heap.size->(∀c,w.heap.size<c->c<w'.heap.size->c≠b->W'.heap[c]?=w'.heap[c]?)->gJ W'.heap.size W' n (.slice aF n.first.length cF) (.slice aI n.ins.length cI) (.slice aO n.outs.length cO) (.slice aK n.keeps.length cK) (.slice aN n.nums.length cN) (.slice aC n.code.length cC))/\(∃ad cap,(.slice aI n.ins.length cI:Value)=.slice ad n.ins.length cap/\n.ins.length≤cap)/\((vZ (s.drop 4)=some (n,s')/\bad'=false)\/(vZ (s.drop 4)=none/\s'=[]/\bad'=true))):=
  (wX b (s.drop 4) false W0 S0.rd hl5).mono fun e w' ⟨n,vF,vI,vO,vK,vN,vC,s',bad',he,X⟩=>by
   have hlb:=S0.lb
   have hNV:=X.out.2.2.1 w' (Nat.le_refl _) (fun _ _ _=>rfl)
   obtain ⟨aF,_,_,cF,rfl,-,-⟩:=id hNV.f
   obtain ⟨aI,_,_,cI,rfl,-,-⟩:=id hNV.i
   obtain ⟨aO,_,_,cO,rfl,-,-⟩:=id hNV.o
   obtain ⟨aK,_,_,cK,rfl,-,-⟩:=id hNV.k
   obtain ⟨aN,_,_,cN,rfl,-,-⟩:=id hNV.m
   obtain ⟨aC,_,_,cC,rfl,-,-⟩:=id hNV.c
   refine ⟨n,aF,cF,aI,cI,aO,cO,aK,cK,aN,cN,aC,cC,s',bad',he,⟨?_,X.out.1,?_,hlb⟩,fun W' hW hE=>X.out.2.2.1 W' hW (fun c hc hl=>hE c (by have:=aB S0.rb;omega) hl (by have:=aB S0.rd;omega)),X.out.2.2.2.1,X.out.2.2.2.2⟩
   ·rw[X.out.2.1.block _ (aB S0.rb) (by simp;omega)];exact S0.rb
   ·exact S0.below.trans ⟨X.out.2.1.os,X.out.2.1.tape,X.out.2.1.output,X.out.2.1.size,fun k hk=>X.out.2.1.block k (by have:=S0.below.size;omega) (by simp;omega)⟩
 clear hW hc S0 hb S
 go_upto_region 6 with (go_at_call 46;refine hcode.mono ?_;rintro e w2 ⟨n,aF,cF,aI,cI,aO,cO,aK,cK,aN,cN,aC,cC,s',bad',rfl,X⟩;clear hcode)
 have hnb:(w2.alloc (.cells #[.int .i64 n.places,.slice aF n.first.length cF,.slice aI n.ins.length cI,.slice aO n.outs.length cO,.slice aK n.keeps.length cK,.slice aN n.nums.length cN,.slice aC n.code.length cC] 26)).heap[w2.heap.size]?=some (.cells #[.int .i64 n.places,.slice aF n.first.length cF,.slice aI n.ins.length cI,.slice aO n.outs.length cO,.slice aK n.keeps.length cK,.slice aN n.nums.length cN,.slice aC n.code.length cC] 26 (0,0)):=heap_alloc_new w2 _
 have hr3:RW w (w2.alloc (.cells #[.int .i64 n.places,.slice aF n.first.length cF,.slice aI n.ins.length cI,.slice aO n.outs.length cO,.slice aK n.keeps.length cK,.slice aN n.nums.length cN,.slice aC n.code.length cC] 26)) b s' bad':=⟨by rw[Below.heap_alloc _ _ _ (aB X.out.1.rb)];exact X.out.1.rb,by unfold lA;rw[Below.heap_alloc _ _ _ (aB X.out.1.rd)];exact X.out.1.rd,kJ X.out.1.below _,X.out.1.lb⟩
 have hn3:(∀W',(w2.alloc (.cells #[.int .i64 n.places,.slice aF n.first.length cF,.slice aI n.ins.length cI,.slice aO n.outs.length cO,.slice aK n.keeps.length cK,.slice aN n.nums.length cN,.slice aC n.code.length cC] 26)).heap.size≤W'.heap.size->(∀c,w.heap.size<c->c<(w2.alloc (.cells #[.int .i64 n.places,.slice aF n.first.length cF,.slice aI n.ins.length cI,.slice aO n.outs.length cO,.slice aK n.keeps.length cK,.slice aN n.nums.length cN,.slice aC n.code.length cC] 26)).heap.size->c≠b->W'.heap[c]?=(w2.alloc (.cells #[.int .i64 n.places,.slice aF n.first.length cF,.slice aI n.ins.length cI,.slice aO n.outs.length cO,.slice aK n.keeps.length cK,.slice aN n.nums.length cN,.slice aC n.code.length cC] 26)).heap[c]?)->gJ W'.heap.size W' n (.slice aF n.first.length cF) (.slice aI n.ins.length cI) (.slice aO n.outs.length cO) (.slice aK n.keeps.length cK) (.slice aN n.nums.length cN) (.slice aC n.code.length cC)):=fun W' hW hE=>X.out.2.1 W' (by simp at hW;omega) (fun c hc hl hb=>by rw[hE c hc (by simp;omega) hb];exact Below.heap_alloc _ _ _ hl)
 revert hnb hr3 hn3
 generalize w2.alloc (.cells #[.int .i64 n.places,.slice aF n.first.length cF,.slice aI n.ins.length cI,.slice aO n.outs.length cO,.slice aK n.keeps.length cK,.slice aN n.nums.length cN,.slice aC n.code.length cC] 26)=W3
 generalize w2.heap.size=nb
 intro hnb hr3 hn3
 have N3:Hid (_/\_/\_):=⟨hnb,hr3,hn3⟩
 obtain ⟨S1,hS1⟩:∃S1,S1=kL s':=⟨_,rfl⟩
 have e0:W3.cell? ⟨b,0,none⟩=some (.string S1):=by rw[hS1];exact (dD hr3.rd 0 _ rfl).1
 have e1:W3.cell? ⟨b,1,none⟩=some (.bool bad'):=(dD hr3.rd 1 _ rfl).1
 have HS1:Hid _:=hS1
 obtain ⟨p0,f0⟩:=dD hr3.rb 0 (.int .i64 0) rfl
 obtain ⟨p1,f1⟩:=dD hr3.rb 1 (.slice none 0 0) rfl
 obtain ⟨p2,f2⟩:=dD hr3.rb 2 (.slice none 0 0) rfl
 obtain ⟨p3,f3⟩:=dD hr3.rb 3 (.slice none 0 0) rfl
 obtain ⟨p4,f4⟩:=dD hr3.rb 4 (.slice none 0 0) rfl
 obtain ⟨p5,f5⟩:=dD hr3.rb 5 (.slice none 0 0) rfl
 obtain ⟨p6,f6⟩:=dD hr3.rb 6 (.slice none 0 0) rfl
 have HC:Hid _:=X.out.2.2
 have hform:∀W,W=(((((((W3.setCell ⟨w.heap.size,0,none⟩ (.int .i64 0)).setCell ⟨w.heap.size,1,none⟩ (.slice none 0 0)).setCell ⟨w.heap.size,2,none⟩ (.slice none 0 0)).setCell ⟨w.heap.size,3,none⟩ (.slice none 0 0)).setCell ⟨w.heap.size,4,none⟩ (.slice none 0 0)).setCell ⟨w.heap.size,5,none⟩ (.slice none 0 0)).setCell ⟨w.heap.size,6,none⟩ (.slice none 0 0))->W.heap[w.heap.size]?=some (.cells #[.int .i64 0,.slice none 0 0,.slice none 0 0,.slice none 0 0,.slice none 0 0,.slice none 0 0,.slice none 0 0] 26 (0,0))/\Below w.heap.size w W:=fun W hW=>by
  subst hW
  exact ⟨bC1 hr3.rb _ _ _ _ _ _ _,((((((hr3.below.setCell (by simp) _).setCell (by simp) _).setCell (by simp) _).setCell (by simp) _).setCell (by simp) _).setCell (by simp) _).setCell (by simp) _⟩
 have HF:Hid _:=hform
 have HPRE:Hid _:=hpre
 clear hnb hr3 hn3 hS1 X hform hpre h
 cases bad' with
 | true=>
  have hnone:dS s=(Bf,(3,-1)):=by
   rcases HC.out.2 with ⟨_,h2⟩|⟨h1,_⟩
   ·cases h2
   ·unfold dS nB
    have hp:[67,76,80,49].isPrefixOf s=true:=HPRE.out
    rw[if_pos hp,h1]
  have HNO:Hid _:=hnone
  clear hnone
  go_wp2_with fail
  refine bodyPost_ret (nQ _ _ w.heap.size _ _ rfl rfl rfl (HF.out _ rfl).1) rfl ?_
  show jO w (dS s).1 (dS s).2 _ _
  rw[HNO.out]
  exact ⟨_,_,_,_,_,_,_,rfl,bT6 _ _,⟨none,0,rfl,Nat.le_refl _⟩,.inr (.inl ⟨by decide,rfl,rfl⟩),(HF.out _ rfl).2⟩
 | false=>
  have hsome:vZ (s.drop 4)=some (n,s'):=by
   rcases HC.out.2 with ⟨h1,_⟩|⟨_,_,h2⟩
   ·exact h1
   ·cases h2
  by_cases hs0:s'=[]
  ·subst hs0
   have hSm:=hsm n [] hsome
   have hrE:dS s=if dY n=(0,-1) then (n,(0,-1)) else (Bf,dY n):=by
    unfold dS nB
    have hp:[67,76,80,49].isPrefixOf s=true:=HPRE.out
    rw[if_pos hp,hsome]
    simp only[if_true]
   have HRE:Hid _:=hrE
   have hye:(S1.toList==[])=true:=by
    have:=(Lib.bytes_beq_iff S1 ⟨#[]⟩).2 (by rw[HS1.out];rfl)
    rw[show (⟨#[]⟩:ByteArray).toList=[] by decide +kernel] at this
    exact this
   have m0:W3.cell? ⟨nb,0,none⟩=some (.int .i64 n.places):=(dD N3.out.1 0 _ rfl).1
   have m1:W3.cell? ⟨nb,1,none⟩=some (.slice aF n.first.length cF):=(dD N3.out.1 1 _ rfl).1
   have m2:W3.cell? ⟨nb,2,none⟩=some (.slice aI n.ins.length cI):=(dD N3.out.1 2 _ rfl).1
   have m3:W3.cell? ⟨nb,3,none⟩=some (.slice aO n.outs.length cO):=(dD N3.out.1 3 _ rfl).1
   have m4:W3.cell? ⟨nb,4,none⟩=some (.slice aK n.keeps.length cK):=(dD N3.out.1 4 _ rfl).1
   have m5:W3.cell? ⟨nb,5,none⟩=some (.slice aN n.nums.length cN):=(dD N3.out.1 5 _ rfl).1
   have m6:W3.cell? ⟨nb,6,none⟩=some (.slice aC n.code.length cC):=(dD N3.out.1 6 _ rfl).1
   have hck:Calls Tryz.prog 29 #[.agg #[.int .i64 n.places,.slice aF n.first.length cF,.slice aI n.ins.length cI,.slice aO n.outs.length cO,.slice aK n.keeps.length cK,.slice aN n.nums.length cN,.slice aC n.code.length cC]] W3 fun e w'=>∃v,e=.returned v/\Hid (aN7 W3.heap.size w' v (dY n)/\Below W3.heap.size W3 w'):=
    (Nx.iM W3.heap.size n W3 _ _ _ _ _ _ (N3.out.2.2 W3 (Nat.le_refl _) (fun _ _ _ _=>rfl)) (Nat.le_refl _) hSm).mono fun e w' ⟨v,he,h1,h2⟩=>⟨v,he,h1,h2⟩
   clear hsome hrE hSm
   go_upto_region 9 with (go_at_call 29;refine hck.mono ?_;rintro e w4 ⟨v,rfl,Y⟩;clear hck)
   clear p0 p1 p2 p3 p4 p5 p6 f0 f1 f2 f3 f4 f5 f6 m0 m1 m2 m3 m4 m5 m6 e0 e1
   have r4:w4.heap[w.heap.size]?=some (.cells #[.int .i64 0,.slice none 0 0,.slice none 0 0,.slice none 0 0,.slice none 0 0,.slice none 0 0,.slice none 0 0] 26 (0,0)):=by rw[Y.out.2.block _ (aB N3.out.2.1.rb)];exact N3.out.2.1.rb
   have n4:w4.heap[nb]?=some (.cells #[.int .i64 n.places,.slice aF n.first.length cF,.slice aI n.ins.length cI,.slice aO n.outs.length cO,.slice aK n.keeps.length cK,.slice aN n.nums.length cN,.slice aC n.code.length cC] 26 (0,0)):=by rw[Y.out.2.block _ (aB N3.out.1)];exact N3.out.1
   have b4:Below w.heap.size w w4:=iQ N3.out.2.1.below Y.out.2
   obtain ⟨p0,f0⟩:=dD r4 0 (.int .i64 0) rfl
   obtain ⟨p1,f1⟩:=dD r4 1 (.slice none 0 0) rfl
   obtain ⟨p2,f2⟩:=dD r4 2 (.slice none 0 0) rfl
   obtain ⟨p3,f3⟩:=dD r4 3 (.slice none 0 0) rfl
   obtain ⟨p4,f4⟩:=dD r4 4 (.slice none 0 0) rfl
   obtain ⟨p5,f5⟩:=dD r4 5 (.slice none 0 0) rfl
   obtain ⟨p6,f6⟩:=dD r4 6 (.slice none 0 0) rfl
   have m0:w4.cell? ⟨nb,0,none⟩=some (.int .i64 n.places):=(dD n4 0 _ rfl).1
   have m1:w4.cell? ⟨nb,1,none⟩=some (.slice aF n.first.length cF):=(dD n4 1 _ rfl).1
   have m2:w4.cell? ⟨nb,2,none⟩=some (.slice aI n.ins.length cI):=(dD n4 2 _ rfl).1
   have m3:w4.cell? ⟨nb,3,none⟩=some (.slice aO n.outs.length cO):=(dD n4 3 _ rfl).1
   have m4:w4.cell? ⟨nb,4,none⟩=some (.slice aK n.keeps.length cK):=(dD n4 4 _ rfl).1
   have m5:w4.cell? ⟨nb,5,none⟩=some (.slice aN n.nums.length cN):=(dD n4 5 _ rfl).1
   have m6:w4.cell? ⟨nb,6,none⟩=some (.slice aC n.code.length cC):=(dD n4 6 _ rfl).1
   have hset:∀(y0 y1 y2 y3 y4 y5 y6:Value) (W:World),W=(((((((w4.setCell ⟨w.heap.size,0,none⟩ y0).setCell ⟨w.heap.size,1,none⟩ y1).setCell ⟨w.heap.size,2,none⟩ y2).setCell ⟨w.heap.size,3,none⟩ y3).setCell ⟨w.heap.size,4,none⟩ y4).setCell ⟨w.heap.size,5,none⟩ y5).setCell ⟨w.heap.size,6,none⟩ y6)->W.heap[w.heap.size]?=some (.cells #[y0,y1,y2,y3,y4,y5,y6] 26 (0,0))/\Below w.heap.size w W/\(∀c,c≠w.heap.size->W.heap[c]?=w4.heap[c]?)/\W.heap.size=w4.heap.size:=fun y0 y1 y2 y3 y4 y5 y6 W hW=>by
    subst hW
    exact ⟨bC1 r4 _ _ _ _ _ _ _,((((((b4.setCell (by simp) _).setCell (by simp) _).setCell (by simp) _).setCell (by simp) _).setCell (by simp) _).setCell (by simp) _).setCell (by simp) _,fun c hc=>bE9 w4 w.heap.size _ _ _ _ _ _ _ c hc,by simp[World.setCell]⟩
   have HF4:Hid _:=hset
   have HB4:Hid (_/\_):=⟨Y.out.2.size,aB N3.out.2.1.rb⟩
   clear hset r4 n4 b4 HF
   by_cases hok:dY n=(0,-1)
   ·have hv:v=.nilIface:=by
     have:=Y.out.1
     rw[hok] at this
     rcases this with ⟨_,_,hv⟩|⟨h1,_⟩|⟨h1,_⟩
     ·exact hv
     ·exact absurd rfl h1
     ·exact absurd rfl h1
    subst hv
    have HOK:Hid _:=hok
    clear hok
    go_wp2_with fail
    obtain ⟨s1,s2,s3,s4⟩:=HF4.out (.int .i64 n.places) (.slice aF n.first.length cF) (.slice aI n.ins.length cI) (.slice aO n.outs.length cO) (.slice aK n.keeps.length cK) (.slice aN n.nums.length cN) (.slice aC n.code.length cC) _ rfl
    refine bodyPost_ret (nQ _ _ w.heap.size _ _ rfl rfl rfl s1) rfl ?_
    show jO w (dS s).1 (dS s).2 _ _
    rw[HRE.out,if_pos HOK.out]
    refine ⟨_,_,_,_,_,_,_,rfl,N3.out.2.2 _ (by rw[s4];exact HB4.out.1) (fun c hc hl _=>?_),HC.out.1,.inl ⟨rfl,rfl,rfl⟩,s2⟩
    rw[s3 c (by omega)]
    exact Y.out.2.block c hl
   ·have hv:∃t x,v=.iface t x:=by
     rcases Y.out.1 with ⟨h1,h2,_⟩|⟨_,_,hv⟩|⟨_,g,q,_,_,hv,_⟩
     ·exact absurd (Prod.ext h1 h2) hok
     ·exact ⟨_,_,hv⟩
     ·exact ⟨_,_,hv⟩
    obtain ⟨t,x,rfl⟩:=hv
    have HOK:Hid _:=hok
    clear hok
    go_wp2_with fail
    obtain ⟨s1,s2,s3,s4⟩:=HF4.out (.int .i64 0) (.slice none 0 0) (.slice none 0 0) (.slice none 0 0) (.slice none 0 0) (.slice none 0 0) (.slice none 0 0) _ rfl
    refine bodyPost_ret (nQ _ _ w.heap.size _ _ rfl rfl rfl s1) rfl ?_
    show jO w (dS s).1 (dS s).2 _ _
    rw[HRE.out,if_neg HOK.out]
    refine ⟨_,_,_,_,_,_,_,rfl,bT6 _ _,⟨none,0,rfl,Nat.le_refl _⟩,?_,s2⟩
    rcases Y.out.1 with h1|h1|⟨h1,g,q,h2,h3,h4,h5⟩
    ·exact .inl h1
    ·exact .inr (.inl h1)
    ·refine .inr (.inr ⟨h1,g,q,h2,by have:=HB4.out.2;omega,h4,?_⟩)
     rw[s3 g (by have:=HB4.out.2;omega)];exact h5
  ·have hnone:dS s=(Bf,(3,-1)):=by
    unfold dS nB
    have hp:[67,76,80,49].isPrefixOf s=true:=HPRE.out
    rw[if_pos hp,hsome]
    simp only[if_neg hs0]
   have HNO:Hid _:=hnone
   have hne:(S1.toList==[])=false:=by
    have:=(Lib.bytes_beq_false_iff S1 ⟨#[]⟩).2 (fun e=>hs0 (zZ (by rw[<-HS1.out,e];rfl)))
    rw[show (⟨#[]⟩:ByteArray).toList=[] by decide +kernel] at this
    exact this
   clear hsome hs0 hnone
   go_wp2_with fail
   refine bodyPost_ret (nQ _ _ w.heap.size _ _ rfl rfl rfl (HF.out _ rfl).1) rfl ?_
   show jO w (dS s).1 (dS s).2 _ _
   rw[HNO.out]
   exact ⟨_,_,_,_,_,_,_,rfl,bT6 _ _,⟨none,0,rfl,Nat.le_refl _⟩,.inr (.inl ⟨by decide,rfl,rfl⟩),(HF.out _ rfl).2⟩
end Ix
end
section
namespace Ix
open Nx
theorem qQ (c:UInt8) (t:List UInt8):∀j,Ai (c::t) (j+1)=c.toNat % 128+128*Ai t j
 | 0=>by simp[Ai]
 | j+1=>by
  have e:2 ^ (7*(j+1))=128*2 ^ (7*j):=by rw[show 7*(j+1)=7*j+7 by omega,Nat.pow_add,Nat.mul_comm]
  rw[Ai,qQ c t j,Ai,e]
  have e2:(c::t).getD (j+1) 0=t.getD j 0:=by simp
  rw[e2,Nat.mul_add,<-Nat.mul_assoc,<-Nat.mul_assoc,Nat.mul_comm _ 128,Nat.mul_assoc,Nat.add_assoc]
theorem cA3 (k:Nat):∀(u:Nat) (r:List UInt8),u<128 ^ (k+1)->Ai (pb u++r) (pb u).length=u:=by
 induction k with
 | zero=>
  intro u r h
  have h':u<128:=by simpa using h
  rw[mK h']
  have e:([UInt8.ofNat u]:List UInt8).length=0+1:=rfl
  rw[e,List.singleton_append,qQ]
  have:(UInt8.ofNat u).toNat=u:=UInt8.toNat_ofNat_of_lt' (by show u<256;omega)
  rw[this]
  simp[Ai]
  omega
 | succ k ih=>
  intro u r h
  by_cases h0:u<128
  ·rw[mK h0]
   have e:([UInt8.ofNat u]:List UInt8).length=0+1:=rfl
   rw[e,List.singleton_append,qQ]
   have:(UInt8.ofNat u).toNat=u:=UInt8.toNat_ofNat_of_lt' (by show u<256;omega)
   rw[this]
   simp[Ai]
   omega
  ·have h1:u / 128<128 ^ (k+1):=by
    apply Nat.div_lt_of_lt_mul
    rw[Nat.pow_succ] at h
    omega
   rw[rH h0,List.length_cons,List.cons_append,qQ,ih _ _ h1]
   have:(UInt8.ofNat (u % 128+128)).toNat=u % 128+128:=UInt8.toNat_ofNat_of_lt' (by show u % 128+128<256;omega)
   rw[this]
   omega
theorem aL5:∀(k u:Nat),u<128 ^ (k+1)->∀j,j+1<(pb u).length->128≤((pb u).getD j 0).toNat
 | 0,u,h,j,hj=>by
  rw[mK (by simpa using h)] at hj
  simp at hj
 | k+1,u,h,j,hj=>by
  by_cases h0:u<128
  ·rw[mK h0] at hj
   simp at hj
  ·have h1:u / 128<128 ^ (k+1):=by
    apply Nat.div_lt_of_lt_mul
    rw[Nat.pow_succ] at h
    omega
   rw[rH h0] at hj ⊢
   cases j with
   | zero=>
    have:(UInt8.ofNat (u % 128+128)).toNat=u % 128+128:=UInt8.toNat_ofNat_of_lt' (by show u % 128+128<256;omega)
    simp only[List.getD_cons_zero]
    rw[this];omega
   | succ j=>
    simp only[List.getD_cons_succ]
    exact aL5 k _ h1 j (by simpa using hj)
theorem bD9:∀(k u:Nat),u<128 ^ (k+1)->((pb u).getD ((pb u).length-1) 0).toNat<128
 | 0,u,h=>by
  have h':u<128:=by simpa using h
  rw[mK h']
  have:(UInt8.ofNat u).toNat=u:=UInt8.toNat_ofNat_of_lt' (by show u<256;omega)
  simp
  omega
 | k+1,u,h=>by
  by_cases h0:u<128
  ·rw[mK h0]
   have:(UInt8.ofNat u).toNat=u:=UInt8.toNat_ofNat_of_lt' (by show u<256;omega)
   simp
   omega
  ·have h1:u / 128<128 ^ (k+1):=by
    apply Nat.div_lt_of_lt_mul
    rw[Nat.pow_succ] at h
    omega
   rw[rH h0]
   have hp:=aE9 (u / 128)
   have e:(UInt8.ofNat (u % 128+128)::pb (u / 128)).length-1=((pb (u / 128)).length-1)+1:=by simp;omega
   rw[e,List.getD_cons_succ]
   exact bD9 k _ h1
theorem O0 (s:List UInt8) (f:Nat):∀(d i:Nat),(∀j,i≤j->j<i+d->j<s.length/\128≤(s.getD j 0).toNat)->Aj s (f+d) i=Aj s f (i+d)
 | 0,i,_=>rfl
 | d+1,i,h=>by
  have h0:=h i (Nat.le_refl _) (by omega)
  have e:f+(d+1)=(f+d)+1:=by omega
  rw[e,Aj,if_pos h0.1,if_pos h0.2,O0 s f d (i+1) (fun j h1 h2=>h j (by omega) (by omega))]
  congr 1;omega
theorem yY (a b:List UInt8) (j:Nat) (h:j<a.length):(a++b).getD j 0=a.getD j 0:=by
 rw[List.getD_eq_getElem?_getD,List.getD_eq_getElem?_getD,List.getElem?_append_left h]
theorem aC7 (z:Int) (r:List UInt8) (h:-9223372036854775808≤z) (h':z≤9223372036854775807):tk (P8 z++r)=some (z,r):=by
 have hu:=aZ4 h h'
 have hten:(P8 z).length≤10:=jN h h'
 have hpos:=bN6 z
 have hlt:wv z<128 ^ (9+1):=by omega
 obtain ⟨m,hm⟩:∃m,(P8 z).length=m+1:=⟨(P8 z).length-1,by omega⟩
 have hhi:=aL5 9 (wv z) hlt
 have hlo:=bD9 9 (wv z) hlt
 have hv:=cA3 9 (wv z) r hlt
 have hm':(pb (wv z)).length=m+1:=hm
 unfold tk
 have e10:10=(9-m+1)+m:=by omega
 rw[e10,O0 (P8 z++r) (9-m+1) m 0 (fun j _ hj=>⟨by rw[List.length_append];omega,by rw[yY _ _ j (by omega)];exact hhi j (by omega)⟩),Nat.zero_add,Aj,if_pos (by rw[List.length_append];omega)]
 have hl2:((P8 z++r).getD m 0).toNat<128:=by
  rw[yY _ _ m (by omega)]
  rw[hm'] at hlo
  show ((pb (wv z)).getD m 0).toNat<128
  simpa using hlo
 rw[if_neg (by omega)]
 have hvb:vb (P8 z++r) (m+1)=wv z:=by
  rw[aC3]
  have:Ai (P8 z++r) (m+1)=wv z:=by rw[<-hm'];exact hv
  rw[this,Nat.mod_eq_of_lt hu]
 rw[hvb,cI0,<-hm,List.take_left,List.drop_left,if_pos rfl]
theorem nN (z:Int) (r:List UInt8) (h:0≤z) (h':z≤4000):sm (P8 z++r)=some (z,r):=bY2 (aC7 z r (by omega) (by omega)) h h'
theorem aK8 {α:Type}(f:List UInt8->Option (α×List UInt8)) (g:α->List UInt8) (l:List α) (r:List UInt8) (hf:∀z∈l,∀r,f (g z++r)=some (z,r)):∀k,k≤l.length->mA f (l.flatMap g++r) k=some (l.take k,(l.drop k).flatMap g++r)
 | 0,_=>by simp[mA]
 | k+1,hk=>by
  have hlt:k<l.length:=by omega
  rw[mA,aK8 f g l r hf k (by omega)]
  simp only
  rw[List.drop_eq_getElem_cons hlt,List.flatMap_cons,List.append_assoc,hf l[k] (List.getElem_mem hlt)]
  simp only
  rw[List.take_succ_eq_append_getElem hlt]
theorem nK {α:Type}(f:List UInt8->Option (α×List UInt8)) (g:α->List UInt8) (l:List α) (r:List UInt8) (hf:∀z∈l,∀r,f (g z++r)=some (z,r)):mA f (l.flatMap g++r) l.length=some (l,r):=by
 rw[aK8 f g l r hf l.length (Nat.le_refl _)]
 simp
theorem rJ (f:List UInt8->Option (Int×List UInt8)) (l:List Int) (r:List UInt8) (hn:l.length≤4000) (hf:∀z∈l,∀r,f (P8 z++r)=some (z,r)):lM f (pl l++r)=some (l,r):=by
 unfold lM pl
 rw[List.append_assoc,nN _ _ (by omega) (by omega)]
 simp only
 rw[Int.toNat_natCast]
 exact nK f P8 l r hf
def aY4 (s:Sp):Prop:=(∀z∈eK s,0≤z/\z≤4000)/\(dJ s.code<1->s.a=0)/\(dJ s.code<2->s.b=0)/\(dJ s.code<3->s.c=0)
theorem uN (c:Int):dJ c≤3:=by unfold dJ;split<;>(try split)<;>(try split)<;>omega
theorem bR4 (s:Sp) (h:aY4 s) (r:List UInt8):tO (ps s++r)=some (s,r):=by
 obtain ⟨h1,h2,h3,h4⟩:=h
 have hm:=uN s.code
 have e:ps s++r=P8 s.code++((s.dst::[s.a,s.b,s.c].take (dJ s.code)).flatMap P8++r):=by
  unfold ps eK
  rw[List.flatMap_cons,List.append_assoc]
 have hc:=h1 s.code (by unfold eK;exact List.mem_cons_self)
 have hlen:(s.dst::[s.a,s.b,s.c].take (dJ s.code)).length=1+dJ s.code:=by
  rw[List.length_cons,List.length_take]
  show min (dJ s.code) 3+1=_
  omega
 have hk:=nK sm P8 (s.dst::[s.a,s.b,s.c].take (dJ s.code)) r (fun z hz r=>by
  have:=h1 z (by unfold eK;exact List.mem_cons_of_mem _ hz)
  exact nN z r this.1 this.2)
 rw[hlen] at hk
 unfold tO
 rw[e,nN _ _ hc.1 hc.2]
 simp only[hk]
 have hm4:dJ s.code=0\/dJ s.code=1\/dJ s.code=2\/dJ s.code=3:=by omega
 obtain ⟨code,dst,a,b,c⟩:=s
 simp only at h2 h3 h4 hm4 ⊢
 rcases hm4 with hq|hq|hq|hq<;>rw[hq] at h2 h3 h4 ⊢ <;> simp_all
structure xK (n:Nt):Prop where
 p:0≤n.places/\n.places≤4000
 f:n.first.length≤4000/\∀z∈n.first,-9223372036854775808≤z/\z≤9223372036854775807
 i:n.ins.length≤4000/\∀z∈n.ins,0≤z/\z≤4000
 o:n.outs.length≤4000/\∀z∈n.outs,0≤z/\z≤4000
 k:n.keeps.length≤4000/\∀z∈n.keeps,0≤z/\z≤4000
 m:n.nums.length≤4000/\∀z∈n.nums,-9223372036854775808≤z/\z≤9223372036854775807
 c:n.code.length≤4000/\∀s∈n.code,aY4 s
def lW (n:Nt):List UInt8:=P8 n.places++(pl n.first++(pl n.ins++(pl n.outs++(pl n.keeps++(pl n.nums++(P8 n.code.length++n.code.flatMap ps))))))
theorem iG (n:Nt):cD n=[67,76,80,49]++lW n:=by
 unfold cD lW
 simp only[List.append_assoc]
theorem rF (n:Nt) (h:xK n) (r:List UInt8):vZ (lW n++r)=some (n,r):=by
 unfold lW
 simp only[List.append_assoc]
 refine cB4 (nN _ _ h.p.1 h.p.2) (rJ tk _ _ h.f.1 fun z hz r=>aC7 z r (h.f.2 z hz).1 (h.f.2 z hz).2) (rJ sm _ _ h.i.1 fun z hz r=>nN z r (h.i.2 z hz).1 (h.i.2 z hz).2) (rJ sm _ _ h.o.1 fun z hz r=>nN z r (h.o.2 z hz).1 (h.o.2 z hz).2) (rJ sm _ _ h.k.1 fun z hz r=>nN z r (h.k.2 z hz).1 (h.k.2 z hz).2) (rJ tk _ _ h.m.1 fun z hz r=>aC7 z r (h.m.2 z hz).1 (h.m.2 z hz).2) ?_
 unfold uE
 rw[nN _ _ (by omega) (by have:=h.c.1;omega)]
 simp only
 rw[Int.toNat_natCast]
 exact nK tO ps n.code r fun s hs r=>bR4 s (h.c.2 s hs) r
theorem aS0 (n:Nt) (h:xK n):nB (cD n)=some n:=by
 unfold nB
 rw[iG]
 have hp:[67,76,80,49].isPrefixOf ([67,76,80,49]++lW n)=true:=List.isPrefixOf_iff_prefix.2 (List.prefix_append _ _)
 rw[if_pos hp]
 have e:([67,76,80,49]++lW n:List UInt8).drop 4=lW n++[]:=by simp
 rw[e,rF n h []]
 simp
theorem jT {s r:List UInt8}{z:Int}(h:sm s=some (z,r)):s=P8 z++r/\0≤z/\z≤4000:=⟨(uK (oQ h).1).1,(oQ h).2⟩
theorem nX {f:List UInt8->Option (Int×List UInt8)}{p:Int->Prop}(hf:∀s z r,f s=some (z,r)->s=P8 z++r) (hp:∀s z r,f s=some (z,r)->p z) {s r:List UInt8}{l:List Int}(h:lM f s=some (l,r)):s=pl l++r/\l.length≤4000/\∀z∈l,p z:=by
 unfold lM at h
 split at h
 ·rename_i c r' e
  obtain ⟨e1,e2,e3⟩:=jT e
  have h1:=oP f h
  have h2:=qS f hf h
  refine ⟨?_,by omega,uL f hp h⟩
  unfold pl
  rw[e1,h2,h1,Int.toNat_of_nonneg e2,List.append_assoc]
 ·cases h
theorem cE4 {s r:List UInt8}{x:Sp}(h:tO s=some (x,r)):s=ps x++r/\aY4 x:=by
 unfold tO at h
 split at h
 ·rename_i c r' e
  split at h
  ·rename_i l r'' e2
   injection h with h
   injection h with h1 h2
   subst h1;subst h2
   obtain ⟨g1,g2,g3⟩:=jT e
   have k1:=oP sm e2
   have k2:=qS sm (fun s z r h=>(jT h).1) e2
   have k3:=uL sm (p:=fun z=>0≤z/\z≤4000) (fun s z r h=>(jT h).2) e2
   have hm:=uN c
   have hm4:dJ c=0\/dJ c=1\/dJ c=2\/dJ c=3:=by omega
   have key:l=l.getD 0 0::[l.getD 1 0,l.getD 2 0,l.getD 3 0].take (dJ c)/\(dJ c<1->l.getD 1 0=0)/\(dJ c<2->l.getD 2 0=0)/\(dJ c<3->l.getD 3 0=0):=by
    rcases hm4 with hq|hq|hq|hq<;>rw[hq] at k1 ⊢
    ·match l,k1 with
     | [a],_=>simp
    ·match l,k1 with
     | [a,b],_=>simp
    ·match l,k1 with
     | [a,b,d],_=>simp
    ·match l,k1 with
     | [a,b,d,e],_=>simp
   refine ⟨?_,?_,key.2.1,key.2.2.1,key.2.2.2⟩
   ·unfold ps eK
    simp only
    rw[<-key.1,List.flatMap_cons,g1,k2,List.append_assoc]
   ·intro z hz
    unfold eK at hz
    simp only at hz
    rw[<-key.1] at hz
    rcases List.mem_cons.1 hz with rfl|hz
    ·exact ⟨g2,g3⟩
    ·exact k3 z hz
  ·cases h
 ·cases h
theorem cF3 {s r:List UInt8}{n:Nt}(h:vZ s=some (n,r)):s=lW n++r/\xK n:=by
 obtain ⟨s1,s2,s3,s4,s5,s6,e1,e2,e3,e4,e5,e6,e7⟩:=yS h
 have t1:=jT e1
 have hT:∀s z r,tk s=some (z,r)->s=P8 z++r:=fun s z r h=>(uK h).1
 have hT2:∀s z r,tk s=some (z,r)->-9223372036854775808≤z/\z≤9223372036854775807:=fun s z r h=>(uK h).2
 have hS:∀s z r,sm s=some (z,r)->s=P8 z++r:=fun s z r h=>(jT h).1
 have hS2:∀s z r,sm s=some (z,r)->0≤z/\z≤4000:=fun s z r h=>(jT h).2
 have t2:=nX hT hT2 e2
 have t3:=nX hS hS2 e3
 have t4:=nX hS hS2 e4
 have t5:=nX hS hS2 e5
 have t6:=nX hT hT2 e6
 have t7:s6=P8 n.code.length++n.code.flatMap ps++r/\n.code.length≤4000/\∀x∈n.code,aY4 x:=by
  unfold uE at e7
  split at e7
  ·rename_i c r' e
   obtain ⟨g1,g2,g3⟩:=jT e
   have h1:=oP tO e7
   have h2:=qS tO (fun s z r h=>(cE4 h).1) e7
   refine ⟨?_,by omega,uL tO (fun s z r h=>(cE4 h).2) e7⟩
   rw[g1,h2,h1,Int.toNat_of_nonneg g2,List.append_assoc]
  ·cases e7
 refine ⟨?_,⟨t1.2,t2.2,t3.2,t4.2,t5.2,t6.2,t7.2⟩⟩
 unfold lW
 rw[t1.1,t2.1,t3.1,t4.1,t5.1,t6.1,t7.1]
 simp only[List.append_assoc]
theorem pZ {s:List UInt8}{n:Nt}(h:nB s=some n):s=cD n/\xK n:=by
 unfold nB at h
 split at h
 ·rename_i hp
  split at h
  ·rename_i m r hr
   split at h
   ·rename_i hr0
    injection h with h
    subst h;subst hr0
    obtain ⟨h1,h2⟩:=cF3 hr
    refine ⟨?_,h2⟩
    rw[iG,<-List.append_nil (lW _),<-h1]
    obtain ⟨t,rfl⟩:=List.isPrefixOf_iff_prefix.1 hp
    simp
   ·cases h
  ·cases h
 ·cases h
theorem aE3 (n:Nt) (h:xK n) (k:Nat) (hk:k<(cD n).length):nB ((cD n).take k)=none:=by
 cases hr:nB ((cD n).take k) with
 | none=>rfl
 | some m=>
  exfalso
  obtain ⟨h1,h2⟩:=pZ hr
  have e:cD n=cD m++(cD n).drop k:=by rw[<-h1,List.take_append_drop]
  rw[iG n,iG m,List.append_assoc] at e
  have e2:=List.append_cancel_left e
  have r1:=rF n h []
  rw[List.append_nil,e2,rF m h2] at r1
  injection r1 with r1
  injection r1 with _ r1
  have:=congrArg List.length r1
  rw[List.length_drop] at this
  simp only[List.length_append,List.length_nil] at this
  rw[iG,List.length_append] at hk
  omega
end Ix
end
section
open Go.RowKit
namespace Ix
open Nx
theorem bB8 {P:Int}{nums:Nat}{s:Sp}(h:eA P nums s=0) (hP:P≤4000) (hn:nums≤4000):aY4 s:=by
 refine ⟨vQ h hP hn,?_⟩
 have hd:(if s.code=1 then 1 else (asks s).length)=dJ s.code:=by
  by_cases hc:s.code=1
  ·rw[if_pos hc,hc];rfl
  ·rw[if_neg hc,tD s hc,List.length_take]
   show min (dJ s.code) 3=dJ s.code
   have:=uN s.code
   omega
 have h4:¬(([s.a,s.b,s.c].drop (dJ s.code)).any (· != 0)=true):=by
  intro hany
  unfold eA at h
  rw[hd] at h
  rw[if_pos hany] at h
  split at h
  ·omega
  split at h
  ·omega
  split at h
  ·omega
  omega
 have hm:=uN s.code
 have hm4:dJ s.code=0\/dJ s.code=1\/dJ s.code=2\/dJ s.code=3:=by omega
 rcases hm4 with hq|hq|hq|hq<;>rw[hq] at h4 ⊢ <;> simp at h4 ⊢
 ·exact ⟨h4.1,h4.2.1,h4.2.2⟩
 ·exact ⟨h4.1,h4.2⟩
 ·exact h4
theorem xA {n:Nt}(h:dY n=(0,-1)) (hs:eU n) (hf:gQ n.first) (hm:gQ n.nums):xK n:=by
 obtain ⟨h1,h2,h3,h4,h5⟩:=tV h hs
 have hss:=hs.s
 refine ⟨h2,⟨h1,hf⟩,⟨by omega,h3⟩,⟨by omega,h4⟩,⟨by omega,h5⟩,⟨hs.m,hm⟩,hs.c,fun s hsm=>?_⟩
 unfold dY at h
 split at h
 ·obtain ⟨j,hj,rfl⟩:=List.getElem_of_mem hsm
  have e:n.code.getD j mH=n.code[j]:=by rw[List.getD_eq_getElem?_getD,List.getElem?_eq_getElem hj];rfl
  refine bB8 (P:=n.places) (nums:=n.nums.length) ?_ hs.p hs.m
  rw[<-e]
  apply Decidable.byContradiction
  intro hne
  have:∀m,(∃k,k<m/\eA n.places n.nums.length (n.code.getD k mH)≠0)->∃k,k<m/\eA n.places n.nums.length (n.code.getD k mH)≠0/\∀i,i<k->eA n.places n.nums.length (n.code.getD i mH)=0:=by
   intro m
   induction m with
   | zero=>rintro ⟨k,hk,_⟩;omega
   | succ m ih=>
    rintro ⟨k,hk,hx⟩
    by_cases hm:∃k,k<m/\eA n.places n.nums.length (n.code.getD k mH)≠0
    ·obtain ⟨k',a,b,c⟩:=ih hm
     exact ⟨k',by omega,b,c⟩
    ·refine ⟨k,hk,hx,fun i hi=>?_⟩
     apply Decidable.byContradiction
     intro hy
     exact hm ⟨i,by omega,hy⟩
  obtain ⟨k,hk,hx,hall⟩:=this n.code.length ⟨j,hj,hne⟩
  rw[lN n.places n.nums.length n.code k hall hk hx] at h
  exact hx (Prod.mk.inj h).1
 ·rename_i hw
  exact absurd (Prod.mk.inj h).1 hw
theorem aE6 {n:Nt}(h:dY n=(0,-1)) (hs:eU n) (hf:gQ n.first) (hm:gQ n.nums):dS (cD n)=(n,(0,-1)):=by
 unfold dS
 rw[aS0 n (xA h hs hf hm)]
 simp only[if_pos h]
theorem aE4 {n:Nt}(h:dY n=(0,-1)) (hs:eU n) (hf:gQ n.first) (hm:gQ n.nums) (k:Nat) (hk:k<(cD n).length):dS ((cD n).take k)=(Bf,(3,-1)):=by
 unfold dS
 rw[aE3 n (xA h hs hf hm) k hk]
theorem aE5 {s:List UInt8}(h:(dS s).2=(0,-1)):∃n,dS s=(n,(0,-1))/\dY n=(0,-1)/\s=cD n/\xK n:=by
 unfold dS at h ⊢
 cases hr:nB s with
 | none=>rw[hr] at h;exact absurd (congrArg Prod.fst h) (by decide)
 | some n=>
  rw[hr] at h
  simp only at h ⊢
  by_cases hc:dY n=(0,-1)
  ·exact ⟨n,by rw[if_pos hc],hc,(pZ hr).1,(pZ hr).2⟩
  ·rw[if_neg hc] at h
   exact absurd h hc
end Ix
end
section
open Go.RowKit
namespace Ix
open Nx
theorem yR {s:List UInt8}(h:s.take 4≠hd4):dS s=(Bf,(3,-1)):=by
 unfold dS nB
 have:¬[67,76,80,49].isPrefixOf s=true:=fun e=>h ((aL4 s).1 e)
 rw[if_neg this]
theorem aE2 (s:List UInt8) (w:World) (hs:s.length≤1500):Calls Tryz.prog 23 #[.string (kL s)] w fun e w'=>jO w (dS s).1 (dS s).2 e w':=by
 by_cases h:s.take 4=hd4
 ·refine bZ9 s w h (by omega) fun n r h=>?_
  have h1:=bR5 h
  have h2:(s.drop 4).length≤s.length:=by simp
  exact ⟨h1.2.1,h1.2.2.1,h1.2.2.2,by omega⟩
 ·rw[yR h];exact aL0 s w h
end Ix
end
section
open Go.RowKit
namespace Ix
open Nx
def imN:Nt:=⟨1,[-1],[],[],[],[],[]⟩
theorem aV4:dY imN=(0,-1):=by kernel_rfl
theorem aV2:eU imN:=⟨by decide,by decide,by decide,by decide⟩
theorem aV3:gQ imN.first:=by
 intro x hx
 have:x=-1:=by simpa [imN] using hx
 subst this
 constructor<;>omega
theorem bI2:gQ imN.nums:=by
 intro x hx
 simp[imN] at hx
theorem aV5:cD imN=[67,76,80,49,2,2,1,0,0,0,0,0]:=by
 have a:P8 1=[2]:=by simp[P8,wv,pb]
 have b:P8 (-1)=[1]:=by simp[P8,wv,pb]
 have c:P8 0=[0]:=by simp[P8,wv,pb]
 simp[cD,imN,pl,a,b,c]
end Ix
end
end Go.Proofs.YtcdbhoknhnimcaaGreatDoor
