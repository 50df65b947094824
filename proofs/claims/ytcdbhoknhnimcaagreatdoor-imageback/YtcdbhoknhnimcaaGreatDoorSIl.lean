import Derived.Test.YtcdbhoknhnimcaaGreatDoorSIa
import Derived.Test.YtcdbhoknhnimcaaGreatDoorSNt8b
import Derived.BigRegion
import Derived.Deep.Cut
import Derived.Deep.RegionHeld3
import Derived.Lib.SlicesS
set_option maxRecDepth 20000
set_option maxHeartbeats 2000000
namespace Go.Proofs.YtcdbhoknhnimcaaGreatDoor
section
open Go.RowKit
namespace Ix
open Nx
def sB (w:World) (v v':Value):Prop:=v'.ownBlock=v.ownBlock\/∃g,v'.ownBlock=some g/\w.heap.size≤g
theorem Z1 {w w1 w2:World}{v v1:Value}(h:w.grownBy w1 v.ownBlock) (ha:sB w v v1) (k:w1.grownBy w2 v1.ownBlock):w.grownBy w2 v.ownBlock:=
 ⟨k.os.trans h.os,k.tape.trans h.tape,k.output.trans h.output,Nat.le_trans h.size k.size,fun b hb hne=>by
  rw[k.block b (Nat.lt_of_lt_of_le hb h.size) (fun e=>by
   rcases ha with ha|⟨g,hg,hs⟩
   ·exact hne (e.trans ha)
   ·rw[hg] at e
    injection e with e
    omega)]
  exact h.block b hb hne⟩
theorem aA1 {w w1:World}{v v1 v2:Value}(ha:sB w v v1) (hb:sB w1 v1 v2) (hs:w.heap.size≤w1.heap.size):sB w v v2:=by
 rcases hb with hb|⟨g,hg,hgs⟩
 ·rcases ha with ha|⟨g,hg,hgs⟩
  ·exact .inl (hb.trans ha)
  ·exact .inr ⟨g,hb.trans hg,hgs⟩
 ·exact .inr ⟨g,hg,by omega⟩
theorem Z2 {w w1:World}{v:Value}(o:Obj) (h:(w.alloc o).grownBy w1 v.ownBlock):w.grownBy w1 v.ownBlock:=
 ⟨h.os,h.tape,h.output,by have:=h.size;simp at this;omega,fun b hb hne=>by rw[h.block b (by simp;omega) hne];exact Below.heap_alloc w o b hb⟩
theorem tC (w:World) (x:Value) (t:TypeId):(w.alloc (.cells #[x] t)).cell? ((⟨w.heap.size,0,none⟩:Addr).add 0)=some x:=by
 exact World.cell?_alloc_mark w #[x] t (0,0) 0
theorem zJ {w:World}{B:Nat}{v:Value}{l:List UInt8}(h:I9 w B v l) (o:Obj):I9 (w.alloc o) B v l:=
 h.kept (fun g hg=>Below.heap_alloc w o g (h.lt g hg).2) (by simp)
structure BG (w w':World) (B:Nat) (v v':Value) (l:List UInt8):Prop where
 own:w'.ownsRow B 5 1 v' l.length (bc l)
 grown:w.grownBy w' v.ownBlock
 at_:sB w v v'
def Da (w w':World) (B:Nat) (v v':Value) (l:List UInt8):Prop:=I9 w' B v' l/\w.grownBy w' v.ownBlock/\sB w v v'
theorem Da.step {w w1 w2:World}{B:Nat}{v v1 v2:Value}{l l2:List UInt8}(h:Da w w1 B v v1 l) (o:Obj) (hown:w2.ownsRow B 5 1 v2 l2.length (bc l2)) (hg:(w1.alloc o).grownBy w2 v1.ownBlock) (ha:v2.ownBlock=v1.ownBlock\/v2.ownBlock=some (w1.alloc o).heap.size):BG w w2 B v v2 l2:=by
 refine ⟨hown,Z1 h.2.1 h.2.2 (Z2 o hg),?_⟩
 refine aA1 h.2.2 (ha.imp id fun e=>⟨_,e,by simp⟩) h.2.1.size
theorem BG.zero {w w':World}{B:Nat}{v v':Value}{l:List UInt8}(h:BG w w' B v v' l):Da w w' B v v' l:=⟨.inl h.own,h.grown,h.at_⟩
theorem aA5 (B:Nat) (v:Value) (l:List UInt8) (z:Int) (w:World) (h:I9 w B v l) (hB:B≤w.heap.size) (hl:l.length≤1000000000) (h1:-9223372036854775808≤z) (h2:z≤9223372036854775807) :
    Calls Tryz.prog 48 #[v,.int .i64 z] w fun e w'=>∃v',e=.returned v'/\BG w w' B v v' (l++P8 z):=by
 have hw:=aO3 z w h1 h2
 have hlt:=aZ4 h1 h2
 have hten:=jN h1 h2
 obtain ⟨u0,hu0⟩:∃u0,Hid (u0=wv z):=⟨_,rfl⟩
 rw[<-hu0.out] at hw hlt
 have H:Hid (_/\_):=⟨h,hten⟩
 obtain ⟨ao,cap,rfl⟩:=h.shape
 clear h hten h1 h2
 go_enter Tryz.func48,Tryz.ntmps48
 go_wp2_with (go_at_call 87;refine hw.mono ?_;rintro e w' ⟨rfl,hw'⟩;obtain rfl:=hw'.symm;clear hw)
 go_loopw [0,5] (fun a b wr=>∃(m:List UInt8) (u:Nat),b=.int .u64 u/\u<18446744073709551616/\Hid (Da w wr B (.slice ao l.length cap) a m/\l++P8 z=m++pb u)) (fun _ b _=>(intOf b).toNat)
 case atStart=>exact ⟨l,u0,rfl,hlt,⟨H.out.1,World.grownBy.refl _ _,.inl rfl⟩,by rw[hu0.out];rfl⟩
 case round=>
  obtain ⟨m,u,rfl,hu,X⟩:=hrel
  obtain ⟨ao1,cap1,rfl⟩:=X.out.1.1.shape
  have hm:m.length≤l.length+10:=by
   have e:=congrArg List.length X.out.2
   have:=aE9 u
   have:=H.out.2
   simp only[List.length_append] at e
   omega
  have hBr:B≤wr.heap.size:=Nat.le_trans hB X.out.1.2.1.size
  by_cases h128:u<128
  ·obtain ⟨b,hb⟩:∃b:UInt8,Hid (b=UInt8.ofNat u):=⟨_,rfl⟩
   have hc3:Hid ((u:Int)=(b.toNat:Int)):=by
    have:(u:Int)=(b.toNat:Int):=by rw[hb.out];simp;omega
    exact this
   go_wp2_with (at_builtin;(refine lB rfl (.tmp 18) (.tmp 21) rfl B rfl (zJ X.out.1.1 _) ⟨wr.heap.size,0,none⟩ 1 b rfl (by rw[<-hc3.out];exact tC _ _ _) (by omega) (by simp;omega) ?_);intro v' w2 hown' hgrow hat)
   go_ret
   refine ⟨v',rfl,?_⟩
   have:=X.out.1.step _ hown' hgrow hat
   rw[X.out.2,mK h128,<-hb.out]
   exact this
  ·obtain ⟨b,hb⟩:∃b:UInt8,Hid (b=UInt8.ofNat (u % 128+128)):=⟨_,rfl⟩
   have hc:bits .or .u8 ((u:Int) % 256) 128=(b.toNat:Int):=by
    have e:(u:Int) % 256=((u % 256:Nat):Int):=by omega
    rw[e,cJ2,hb.out,UInt8.toNat_ofNat_of_lt' (by show _<256;omega)]
   go_wp2_with (at_builtin;refine lB rfl (.tmp 10) (.tmp 14) rfl B rfl (zJ X.out.1.1 _) ⟨wr.heap.size,0,none⟩ 1 b rfl (tC _ _ _) (by omega) (by simp;omega) ?_;intro v' w2 hown' hgrow hat)
   go_roundw
   case rel=>
    refine ⟨m++[b],u / 128,by go_num,by omega,(X.out.1.step _ hown' hgrow hat).zero,?_⟩
    rw[X.out.2,rH h128,<-hb.out]
    simp
   case measure=>simp[intOf];omega
end Ix
end
section
open Go.RowKit
namespace Ix
open Nx
theorem dD {w:World}{b:Nat}{cs:Array Value}{t:TypeId}(K:w.heap[b]?=some (.cells cs t (0,0))) (o:Nat) (v:Value) (hv:cs[o]?=some v):w.cell? ⟨b,o,none⟩=some v/\w.frozen? ⟨b,o,none⟩=false:=
 ⟨by rw[cell_of_row _ _ _ _ _ _ K];exact hv,by simp[World.frozen?,K]⟩
theorem aB0 {w:World}{b:Nat}{cs:Array Value}{t:TypeId}(K:w.heap[b]?=some (.cells cs t (0,0))) (o:Nat) (x:Value):(w.setCell ⟨b,o,none⟩ x).heap[b]?=some (.cells (cs.setIfInBounds o x) t (0,0)):=by
 rw[setCell_eq_setRow w b o cs t (0,0) x K]
 exact setRow_heap w b cs _ t _ K
structure PS (w:World) (B q:Nat) (v:Value) (l:List UInt8):Prop where
 var:w.heap[q]?=some (.cells #[v] 99 (0,0))
 bys:I9 w B v l
 ne:v.ownBlock≠some q
structure PF (q:Nat) (w w':World) (v v':Value):Prop where
 os:w'.os=w.os
 tape:w'.tape=w.tape
 output:w'.output=w.output
 size:w.heap.size≤w'.heap.size
 block:∀k,k<w.heap.size->k≠q->v.ownBlock≠some k->w'.heap[k]?=w.heap[k]?
 at_:sB w v v'
theorem PF.refl (q:Nat) (w:World) (v:Value):PF q w w v v:=⟨rfl,rfl,rfl,Nat.le_refl _,fun _ _ _ _=>rfl,.inl rfl⟩
theorem sB.ne {w:World}{v v':Value}(h:sB w v v') {k:Nat}(hk:k<w.heap.size) (hne:v.ownBlock≠some k):v'.ownBlock≠some k:=by
 rcases h with h|⟨g,hg,hs⟩
 ·rw[h];exact hne
 ·rw[hg]
  intro e
  injection e with e
  omega
theorem PF.trans {q:Nat}{w w1 w2:World}{v v1 v2:Value}(h:PF q w w1 v v1) (k:PF q w1 w2 v1 v2):PF q w w2 v v2:=
 ⟨k.os.trans h.os,k.tape.trans h.tape,k.output.trans h.output,Nat.le_trans h.size k.size,fun b hb hq hne=>by
  rw[k.block b (Nat.lt_of_lt_of_le hb h.size) hq (h.at_.ne hb hne)]
  exact h.block b hb hq hne,aA1 h.at_ k.at_ h.size⟩
theorem PF.below {q:Nat}{w w1 w2:World}{v v1:Value}(h:PF q w w1 v v1) (k:Below w1.heap.size w1 w2):PF q w w2 v v1:=
 ⟨k.os.trans h.os,k.tape.trans h.tape,k.output.trans h.output,Nat.le_trans h.size k.size,fun b hb hq hne=>by
  rw[k.block b (Nat.lt_of_lt_of_le hb h.size)]
  exact h.block b hb hq hne,h.at_⟩
theorem PS.below {w w':World}{B q:Nat}{v:Value}{l:List UInt8}(h:PS w B q v l) (k:Below w.heap.size w w'):PS w' B q v l:=
 ⟨by rw[k.block q (aB h.var)];exact h.var,h.bys.kept (fun g hg=>k.block g (h.bys.lt g hg).2) k.size,h.ne⟩
theorem aA0 {q D:Nat}{w w':World}{v v':Value}(h:PF q w w' v v') (hD:D≤q) (hs:D≤w.heap.size) (hg:∀g,v.ownBlock=some g->D≤g):Below D w w':=
 ⟨h.os,h.tape,h.output,h.size,fun k hk=>h.block k (by omega) (by omega) (fun e=>by have:=hg k e;omega)⟩
theorem wA {B q:Nat}{v:Value}{l:List UInt8}(z:Int) (w:World) (h:PS w B q v l) (hB:B≤w.heap.size) (hl:l.length≤1000000000) (h1:-9223372036854775808≤z) (h2:z≤9223372036854775807) :
    Calls Tryz.prog 47 #[.int .i64 z,.pointer (some ⟨q,0,none⟩)] w fun e w'=>e=.returned (.tuple #[])/\∃v',PS w' B q v' (l++P8 z)/\PF q w w' v v':=by
 have hadd:Calls Tryz.prog 48 #[v,.int .i64 z] w fun e w'=>∃v',e=.returned v'/\Hid (BG w w' B v v' (l++P8 z))/\w'.cell? ⟨q,0,none⟩=some v/\w'.frozen? ⟨q,0,none⟩=false:=
  (aA5 B v l z w h.bys hB hl h1 h2).mono fun e w' ⟨v',he,hb⟩=>by
   have hq:w'.heap[q]?=some (.cells #[v] 99 (0,0)):=by
    rw[hb.grown.block q (aB h.var) (fun e=>h.ne e.symm)];exact h.var
   exact ⟨v',he,hb,dD hq 0 v rfl⟩
 have H:Hid _:=h
 obtain ⟨c0,f0⟩:=dD h.var 0 v rfl
 obtain ⟨ao,cap,rfl⟩:=h.bys.shape
 clear h
 go_enter Tryz.func47,Tryz.ntmps47
 go_wp2_with (go_at_call 48;refine hadd.mono ?_;rintro e w' ⟨v',rfl,X,c1,f1⟩;obtain ⟨ao',cap',rfl⟩:=(I9.shape (.inl X.out.own));clear hadd)
 go_end0
 have hq:w'.heap[q]?=some (.cells #[.slice ao l.length cap] 99 (0,0)):=by
  rw[X.out.grown.block q (aB H.out.var) (fun e=>H.out.ne e.symm)];exact H.out.var
 have X2:=X.out
 rw[show (l++P8 z).length=l.length+(P8 z).length from List.length_append] at X2
 have hne:=X2.at_.ne (aB H.out.var) H.out.ne
 refine ⟨rfl,.slice ao' (l.length+(P8 z).length) cap',⟨aB0 hq 0 _,?_,hne⟩,⟨X.out.grown.os,X.out.grown.tape,X.out.grown.output,by simpa [World.setCell] using X.out.grown.size,fun k hk hkq hkn=>?_,X2.at_⟩⟩
 ·exact (I9.kept (.inl X2.own) (fun g hg=>Below.heap_setCell _ _ _ _ (fun e=>hne (by rw[hg];exact congrArg some e))) (by simp[World.setCell]))
 ·rw[Below.heap_setCell _ _ _ _ hkq]
  exact X.out.grown.block k hk (fun e=>hkn e.symm)
def aS1 (q:Nat):Value:=.func (.func 47) #[] #[.pointer (some ⟨q,0,none⟩)]
theorem cK9 (ad:Option Addr) (b off n cap k:Nat) (hk:k<n) (ha:0<n->ad=some ⟨b,off,none⟩) (w:World):(Instr.indexAt 22 (.slice ad n cap) (.int .i64 (k:Int))).run Tryz.prog w=.ok (.pointer (some ⟨b,off+k,none⟩)) w:=by
 obtain rfl:=ha (by omega)
 rw[run_indexAt_slice _ _ _ _ _ _ _ (by kernel_rfl),if_pos ⟨by omega,by omega⟩]
 have e:(sizeOf (Tryz.prog.elem 22)).run Tryz.prog w=.ok 1 w:=by kernel_rfl
 rw[e]
 simp[Result.andThen,Addr.add]
theorem bG8 {A:Nat->Prop}{B q f:Nat}{v:Value}{l:List UInt8}(vz:Value) (zs:List Int) (w:World) (h:PS w B q v l) (hB:B≤w.heap.size) (hl:l.length+10*zs.length≤999999980) (hn:zs.length≤100000)
    (hf:w.heap[f]?=some (.cells #[aS1 q] 101 (0,0))) (hfq:f≠q) (hfv:v.ownBlock≠some f) (hz:cY A w vz zs) (hA:∀b,A b->b<w.heap.size/\b≠q/\v.ownBlock≠some b) (h64:∀z∈zs,-9223372036854775808≤z/\z≤9223372036854775807) :
    Calls Tryz.prog 49 #[vz,.pointer (some ⟨f,0,none⟩)] w fun e w'=>e=.returned (.tuple #[])/\∃v',PS w' B q v' (l++pl zs)/\PF q w w' v v':=by
 obtain ⟨ad,b,off,cap,rfl,ha,hc⟩:=hz
 have hp0:Calls Tryz.prog 47 #[.int .i64 zs.length,.pointer (some ⟨q,0,none⟩)] w fun e w'=>e=.returned (.tuple #[])/\∃v',Hid (PS w' B q v' (l++P8 zs.length)/\PF q w w' v v'):=
  wA zs.length w h hB (by omega) (by omega) (by omega)
 have hfc:=(dD hf 0 _ rfl).1
 unfold aS1 at hfc
 have H:Hid (_/\_/\_):=⟨hf,hfv,aB hf⟩
 have HA:Hid ((0<zs.length->ad=some ⟨b,off,none⟩/\A b)/\(∀b,A b->b<w.heap.size/\b≠q/\v.ownBlock≠some b)/\∀k,k<zs.length->w.cell? ⟨b,off+k,none⟩=some (.int .i64 (zs.getD k 0))):=⟨ha,hA,hc⟩
 have HZ:Hid _:=h64
 have HFQ:Hid _:=hfq
 clear h hf hfq hfv ha hA hc h64
 go_enter Tryz.func49,Tryz.ntmps49
 go_wp2_with (go_at_call 47;refine hp0.mono ?_;rintro e w' ⟨rfl,v1,X⟩;clear hp0)
 go_loopw [11] (fun i wr=>∃k:Nat,k≤zs.length/\i=.int .i64 k/\∃v2,Hid (PS wr B q v2 (l++P8 zs.length++(zs.take k).flatMap P8)/\PF q w wr v v2)) (fun i _=>zs.length-(intOf i).toNat)
 case atStart=>exact ⟨0,Nat.zero_le _,rfl,v1,by simpa using X.out.1,X.out.2⟩
 case round=>
  clear X hfc
  obtain ⟨k,hk,rfl,v2,Y⟩:=hrel
  by_cases hlt:k<zs.length
  ·have hix:=cK9 ad b off zs.length cap k hlt (fun h=>(HA.out.1 h).1)
   obtain ⟨hadb,hAb⟩:=HA.out.1 (by omega)
   obtain ⟨hb1,hb2,hb3⟩:=HA.out.2.1 b hAb
   obtain ⟨x,hx⟩:∃x,Hid (x=zs.getD k 0):=⟨_,rfl⟩
   have hcx:wr.cell? ⟨b,off+k,none⟩=some (.int .i64 x):=by
    rw[cA (Y.out.2.block b hb1 hb2 hb3),hx.out];exact HA.out.2.2 k hlt
   have hfr:wr.heap[f]?=some (.cells #[aS1 q] 101 (0,0)):=by
    rw[Y.out.2.block f H.out.2.2 HFQ.out H.out.2.1];exact H.out.1
   have hfc:=(dD hfr 0 _ rfl).1
   unfold aS1 at hfc
   have hmem:zs.getD k 0∈zs:=by rw[List.getD_eq_getElem?_getD,List.getElem?_eq_getElem hlt];exact List.getElem_mem hlt
   have hx64:=HZ.out _ hmem
   rw[<-hx.out] at hx64
   have hlen:(l++P8 zs.length++(zs.take k).flatMap P8).length≤1000000000:=by
    have h1:=jN (z:=(zs.length:Int)) (by omega) (by omega)
    have h2:((zs.take k).flatMap P8).length≤10*(zs.take k).length:=by
     have:∀m:List Int,(∀z∈m,-9223372036854775808≤z/\z≤9223372036854775807)->(m.flatMap P8).length≤10*m.length:=by
      intro m
      induction m with
      | nil=>intro _;simp
      | cons y m ih=>
       intro hm
       have h1:=ih fun z hz=>hm z (by simp[hz])
       have h2:=jN (hm y (by simp)).1 (hm y (by simp)).2
       simp only[List.flatMap_cons,List.length_append,List.length_cons]
       omega
     exact this _ fun z hz=>HZ.out z (List.mem_of_mem_take hz)
    have h3:(zs.take k).length≤zs.length:=by simp;omega
    simp only[List.length_append]
    omega
   have hp:Calls Tryz.prog 47 #[.int .i64 x,.pointer (some ⟨q,0,none⟩)] wr fun e w'=>e=.returned (.tuple #[])/\∃v',Hid (PS w' B q v' (l++P8 zs.length++(zs.take k).flatMap P8++P8 x)/\PF q wr w' v2 v'):=
    wA x wr Y.out.1 (Nat.le_trans hB Y.out.2.size) hlen hx64.1 hx64.2
   clear hfr hmem hx64 hlen hb1 hb2 hb3 hadb hAb
   go_wp2_with (go_at_call 47;refine hp.mono ?_;rintro e w' ⟨rfl,v3,Z⟩;clear hp)
   go_roundw
   case rel=>
    refine ⟨k+1,by omega,by go_num,v3,?_,Y.out.2.trans Z.out.2⟩
    have e:(zs.take (k+1)).flatMap P8=(zs.take k).flatMap P8++P8 x:=by
     rw[List.take_add_one,List.flatMap_append,hx.out,List.getD_eq_getElem?_getD,List.getElem?_eq_getElem hlt]
     simp
    rw[e,<-List.append_assoc]
    exact Z.out.1
   case measure=>simp[intOf];omega
  ·obtain rfl:k=zs.length:=by omega
   go_wp2_with fail
   go_end0
   refine ⟨rfl,v2,?_,Y.out.2⟩
   have:=Y.out.1
   rw[List.take_length,List.append_assoc] at this
   exact this
end Ix
end
section
open Go.RowKit
namespace Ix
open Nx
theorem cR1 (ad:Option Addr) (b off n cap k:Nat) (hk:k<n) (ha:0<n->ad=some ⟨b,off,none⟩) (w:World):(Instr.indexAt 23 (.slice ad n cap) (.int .i64 (k:Int))).run Tryz.prog w=.ok (.pointer (some ⟨b,off+k,none⟩)) w:=by
 obtain rfl:=ha (by omega)
 rw[run_indexAt_slice _ _ _ _ _ _ _ (by kernel_rfl),if_pos ⟨by omega,by omega⟩]
 have e:(sizeOf (Tryz.prog.elem 23)).run Tryz.prog w=.ok 1 w:=by kernel_rfl
 rw[e]
 simp[Result.andThen,Addr.add]
theorem cK8 (g n k:Nat) (hk:k<n) (w:World):(Instr.indexAt 22 (.slice (some ⟨g,0,none⟩) n n) (.int .i64 (k:Int))).run Tryz.prog w=.ok (.pointer (some ⟨g,k,none⟩)) w:=by
 have:=cK9 (some ⟨g,0,none⟩) g 0 n n k hk (fun _=>rfl) w
 rwa [Nat.zero_add] at this
theorem aW2 (zs:List Int) (k:Nat) (hk:k<zs.length):(zs.take k++List.replicate (zs.length-k) 0).set k (zs.getD k 0)=zs.take (k+1)++List.replicate (zs.length-(k+1)) 0:=by
 have e:zs.length-k=(zs.length-(k+1))+1:=by omega
 have hl:(zs.take k).length=k:=by simp;omega
 rw[e,List.replicate_succ,List.set_append_right _ _ (by omega),hl,Nat.sub_self,List.set_cons_zero,List.take_add_one,List.getD_eq_getElem?_getD,List.getElem?_eq_getElem hk,List.append_assoc]
 rfl
theorem aZ7 {A:Nat->Prop}(v:Value) (zs:List Int) (w:World) (h:cY A w v zs) (hn:zs.length≤100000) :
    Calls Tryz.prog 50 #[v] w fun e w'=>∃v',e=.returned v'/\cY (fun b=>b=w.heap.size) w' v' zs/\Below w.heap.size w w'/\w.heap.size<w'.heap.size:=by
 obtain ⟨ad,b,off,cap,rfl,ha,hc⟩:=h
 obtain ⟨i0,hi,hz0,hz1,hz2⟩:=info_parts Tryz.infoI64
 have hib:i0.bytes*zs.length≤281474976710656:=by rw[hz2];omega
 have HA:Hid ((0<zs.length->ad=some ⟨b,off,none⟩/\A b)/\∀k,k<zs.length->w.cell? ⟨b,off+k,none⟩=some (.int .i64 (zs.getD k 0))):=⟨ha,hc⟩
 clear ha hc
 go_enter Tryz.func50,Tryz.ntmps50
 go_wp2_with (at_make;refine wpList_make_full _ rfl _ _ 22 rfl w.heap.size 2 i0 (.int .i64 0) 1 Tryz.underlying22 hi hz0 hz1 _ _ _ _ zs.length rfl rfl rfl rfl hib (by unfold maxLen;omega) (Nat.le_refl _) ?_;intro w1 hown1 hgrow1)
 have hown:Own w1 (.slice (some ⟨w.heap.size,0,none⟩) zs.length zs.length) (List.replicate zs.length 0) w.heap.size:=bE7 (by rw[<-cK2];exact hown1) (by simp)
 have hlt1:w.heap.size<w1.heap.size:=by
  rcases hown1.2 with ⟨h0,_⟩|⟨g',cap',cur,e1,hB,hg',_⟩
  ·exact absurd h0 (by simp)
  ·have:=aB hg'
   simp at e1;omega
 have HF1:Hid (Below w.heap.size w w1):=⟨hgrow1.os,hgrow1.tape,hgrow1.output,hgrow1.size,fun k hk=>hgrow1.block k hk (by simp)⟩
 have HZ:Hid (0<zs.length->∃rest T,w1.heap[w.heap.size]?=some (.cells rest T (0,0))):=fun hp=>by
  obtain ⟨_,_,_,h1⟩:=hown
  obtain ⟨_,rest,T,hb⟩:=h1 (by simpa using hp)
  exact ⟨_,T,hb⟩
 clear hown1 hgrow1 hib hi hz0 hz1 hz2
 go_loopw [11] (fun i wr=>∃k:Nat,k≤zs.length/\i=.int .i64 k/\Hid (Own wr (.slice (some ⟨w.heap.size,0,none⟩) zs.length zs.length) (zs.take k++List.replicate (zs.length-k) 0) w.heap.size/\Below w.heap.size w wr/\w.heap.size<wr.heap.size)) (fun i _=>zs.length-(intOf i).toNat)
 case atStart=>exact ⟨0,Nat.zero_le _,rfl,by simpa using hown,HF1.out,hlt1⟩
 case round=>
  clear hown HF1 hlt1 HZ
  obtain ⟨k,hk,rfl,X⟩:=hrel
  by_cases hlt:k<zs.length
  ·have hix:=cR1 ad b off zs.length cap k hlt (fun h=>(HA.out.1 h).1)
   have hix2:=cK8 w.heap.size zs.length k hlt
   obtain ⟨x,hx⟩:∃x,Hid (x=zs.getD k 0):=⟨_,rfl⟩
   have hcx:wr.cell? ⟨b,off+k,none⟩=some (.int .i64 x):=by
    have:=HA.out.2 k hlt
    rw[cA (X.out.2.1.block b (fH this)),hx.out];exact this
   have hll:(zs.take k++List.replicate (zs.length-k) (0:Int)).length=zs.length:=by simp;omega
   obtain ⟨y,hcy⟩:∃y,wr.cell? ⟨w.heap.size,k,none⟩=some y:=⟨_,X.out.1.cell k (by omega)⟩
   have hfy:wr.frozen? ⟨w.heap.size,k,none⟩=false:=by
    obtain ⟨_,_,_,h1⟩:=X.out.1
    obtain ⟨_,rest,T,hb⟩:=h1 (by omega)
    exact E8 hb k
   go_wp2_with fail
   go_roundw
   case rel=>
    refine ⟨k+1,by omega,by go_num,?_,?_,?_⟩
    ·obtain ⟨ad',cap',e1,h1⟩:=X.out.1
     obtain ⟨e2,rest,T,hb⟩:=h1 (by omega)
     refine ⟨some ⟨w.heap.size,0,none⟩,zs.length,by simp;omega,fun _=>⟨rfl,rest,T,?_⟩⟩
     rw[aR5 hb,List.set_append_left _ _ (by simp;omega),<-aW2 zs k hlt,List.map_set,hx.out]
    ·exact X.out.2.1.trans ⟨rfl,rfl,rfl,by simp[World.setCell],fun k' hk'=>Below.heap_setCell _ _ _ _ (by simp;omega)⟩
    ·simpa [World.setCell] using X.out.2.2
   case measure=>simp[intOf];omega
  ·obtain rfl:k=zs.length:=by omega
   go_wp2_with fail
   go_ret
   refine ⟨_,rfl,?_,X.out.2.1,X.out.2.2⟩
   have:=X.out.1
   rw[List.take_length,Nat.sub_self,List.replicate_zero,List.append_nil] at this
   exact this.ints fun _=>rfl
end Ix
end
section
open Go.RowKit
namespace Ix
open Nx
def kL (l:List UInt8):ByteArray:=⟨l.toArray⟩
theorem qY (l:List UInt8):(kL l).size=l.length:=by simp[kL,ByteArray.size]
theorem kJ {w w1:World}(h:Below w.heap.size w w1) (o:Obj):Below w.heap.size w (w1.alloc o):=h.alloc h.size o
end Ix
end
section
open Go.RowKit
namespace Ix
open Nx
theorem tW {w w1:World}(h:Below w.heap.size w w1):Below w.heap.size w w1.drew:=⟨h.os,h.tape,h.output,h.size,h.block⟩
def bD7 (b:Nat):Array Value:=#[.pointer (some ⟨b,0,none⟩),.pointer (some ⟨b,1,none⟩),.pointer (some ⟨b,2,none⟩),.pointer (some ⟨b,3,none⟩),.pointer (some ⟨b,4,none⟩)]
theorem bY8 (b:Nat) (code dst a1 a2 a3:Int) (w:World) (h:w.heap[b]?=some (.cells #[.int .i64 code,.int .i64 dst,.int .i64 a1,.int .i64 a2,.int .i64 a3] 39 (0,0))) :
    Calls Tryz.prog 51 #[.pointer (some ⟨b,0,none⟩)] w fun e w'=>∃g,e=.returned (.slice (some ⟨g,0,none⟩) (2+dJ code) 5)/\w.heap.size≤g/\w'.heap[g]?=some (.cells (bD7 b) 107 (0,0))/\Below w.heap.size w w':=by
 have hc0:w.cell? ⟨b,0,none⟩=some (.int .i64 code):=(dD h 0 _ rfl).1
 have hc1:w.cell? ⟨b,1,none⟩=some (.int .i64 dst):=(dD h 1 _ rfl).1
 have hc2:w.cell? ⟨b,2,none⟩=some (.int .i64 a1):=(dD h 2 _ rfl).1
 have hc3:w.cell? ⟨b,3,none⟩=some (.int .i64 a2):=(dD h 3 _ rfl).1
 have hc4:w.cell? ⟨b,4,none⟩=some (.int .i64 a3):=(dD h 4 _ rfl).1
 have hask:Calls Tryz.prog 13 #[.agg #[.int .i64 code,.int .i64 dst,.int .i64 a1,.int .i64 a2,.int .i64 a3]] w fun e w'=>∃ao cap,e=.returned (.slice ao (asks ⟨code,dst,a1,a2,a3⟩).length cap)/\w'.cell? ⟨b,0,none⟩=some (.int .i64 code)/\Hid (Below w.heap.size w w'):=
  (rW code dst a1 a2 a3 w).mono fun e w' ⟨v,he,⟨ad,_,_,cap,hv,_,_⟩,hb⟩=>⟨ad,cap,by rw[he,hv],by rw[cA (hb.block b (aB h))];exact hc0,hb⟩
 by_cases h1:code=1
 ·subst h1
  rw[bN2 _ rfl] at hask
  have e:dJ 1=1:=rfl
  rw[e]
  clear h
  go_enter Tryz.func51,Tryz.ntmps51
  go_wp2_with (go_at_call 13;refine hask.mono ?_;rintro e w1 ⟨ao,cap,rfl,hc0',X⟩;clear hask)
  go_region
  go_wp2_with fail
  go_ret
  exact ⟨w1.heap.size,rfl,X.out.size,heap_alloc_new w1 _,tW (kJ X.out _)⟩
 ·have hm:(asks ⟨code,dst,a1,a2,a3⟩).length=dJ code:=by
   rw[tD _ h1,List.length_take]
   show min (dJ code) 3=dJ code
   have:dJ code≤3:=by unfold dJ;split<;>(try split)<;>(try split)<;>omega
   omega
  have hm3:dJ code=0\/dJ code=1\/dJ code=2\/dJ code=3:=by unfold dJ;split<;>(try split)<;>(try split)<;>omega
  rw[hm] at hask
  have h1':(code==1)=false:=by simpa using h1
  clear h hm
  rcases hm3 with hm3|hm3|hm3|hm3
  all_goals
   rw[hm3] at hask ⊢
   clear hm3
   go_enter Tryz.func51,Tryz.ntmps51
   go_wp2_with (go_at_call 13;refine hask.mono ?_;rintro e w1 ⟨ao,cap,rfl,hc0',X⟩;clear hask)
   go_region
   go_wp2_with fail
   go_ret
   exact ⟨w1.heap.size,rfl,X.out.size,heap_alloc_new w1 _,tW (kJ X.out _)⟩
end Ix
end
section
open Go.RowKit
namespace Ix
open Nx
def lA (w:World) (b:Nat) (s:List UInt8) (bad:Bool):Prop:=w.heap[b]?=some (.cells #[.string (kL s),.bool bad] 97 (0,0))
theorem cG8 (c:Nat) (h:c<256):bits .and .u8 (c:Int) 127=((c % 128:Nat):Int):=by
 show IntKind.u8.wrap ((BitVec.ofInt 8 (c:Int) &&& BitVec.ofInt 8 127).toNat:Int)=_
 have h1:∀k:Fin 256,(BitVec.ofInt 8 ((k.val:Nat):Int) &&& BitVec.ofInt 8 127).toNat=k.val % 128:=by decide +kernel
 have hk:=h1 ⟨c,h⟩
 simp only at hk
 rw[hk]
 simp only[IntKind.wrap,IntKind.bits,IntKind.signed]
 simp
 omega
theorem uI (a b:Nat) (ha:a<18446744073709551616) (hb:b<18446744073709551616):bits .or .u64 (a:Int) (b:Int)=((a ||| b:Nat):Int):=by
 have hx:a ||| b<2 ^ 64:=Nat.or_lt_two_pow (by omega) (by omega)
 have h1:(BitVec.ofInt 64 (a:Int)).toNat=a:=by
  rw[BitVec.ofInt_natCast,BitVec.toNat_ofNat];exact Nat.mod_eq_of_lt (by omega)
 have h2:(BitVec.ofInt 64 (b:Int)).toNat=b:=by
  rw[BitVec.ofInt_natCast,BitVec.toNat_ofNat];exact Nat.mod_eq_of_lt (by omega)
 show IntKind.u64.wrap ((BitVec.ofInt 64 (a:Int) ||| BitVec.ofInt 64 (b:Int)).toNat:Int)=_
 rw[BitVec.toNat_or,h1,h2,IntKind.wrap_u64]
 omega
theorem cH8 (s:List UInt8) (k c:Nat) (hk:k≤9) (hc:c=(s.getD k 0).toNat):vb s k ||| (c % 128*2 ^ (7*k)) % 18446744073709551616=vb s (k+1):=by
 have h1:=(bA7 s k hk).2
 have hM:(18446744073709551616:Nat)=2 ^ (7*k)*2 ^ (64-7*k):=by
  rw[<-Nat.pow_add,show 7*k+(64-7*k)=64 by omega]
 have e1:(c % 128*2 ^ (7*k)) % 18446744073709551616=2 ^ (7*k)*(c % 128 % 2 ^ (64-7*k)):=by
  rw[hM,Nat.mul_comm (c % 128),Nat.mul_mod_mul_left]
 rw[e1,Nat.or_comm,<-Nat.two_pow_add_eq_or_of_lt h1,vb,<-hc,<-Nat.add_mod_mod,e1]
 have h2:c % 128 % 2 ^ (64-7*k)<2 ^ (64-7*k):=Nat.mod_lt _ (Nat.two_pow_pos _)
 have h3:2 ^ (7*k)*(c % 128 % 2 ^ (64-7*k))+2 ^ (7*k)≤2 ^ (7*k)*2 ^ (64-7*k):=by
  rw[<-Nat.mul_succ]
  exact Nat.mul_le_mul_left _ h2
 rw[Nat.mod_eq_of_lt (a:=vb s k+2 ^ (7*k)*(c % 128 % 2 ^ (64-7*k))) (by rw[hM];omega)]
 omega
theorem bQ3 (s:List UInt8) (k:Nat) (h:k<(kL s).size):(kL s)[k].toNat=(s.getD k 0).toNat:=by
 have h':k<s.length:=by rw[<-qY];exact h
 rw[List.getD_eq_getElem?_getD,List.getElem?_eq_getElem h']
 rfl
theorem vM (s:List UInt8) (k:Nat):(kL s).extract 0 k=kL (s.take k):=by
 apply ByteArray.ext
 simp[kL,ByteArray.data_extract]
theorem O4 (s:List UInt8) (k:Nat):(kL s).extract k (kL s).size=kL (s.drop k):=by
 apply ByteArray.ext
 rw[qY]
 simp[kL,ByteArray.data_extract]
 exact List.take_of_length_le (by simp)
theorem zZ {a b:List UInt8}(h:kL a=kL b):a=b:=by
 have:=congrArg (fun x=>x.data.toList) h
 simpa [kL] using this
theorem rR (b:Nat) (s:List UInt8) (bad:Bool) (w:World) (h:lA w b s bad) :
    Calls Tryz.prog 127 #[.pointer (some ⟨b,0,none⟩)] w fun e w'=>e=.returned (.tuple #[])/\Hid (lA w' b [] true/\Fr w.heap.size [b] w w'):=by
 obtain ⟨c0,f0⟩:=dD h 0 _ rfl
 obtain ⟨c1,f1⟩:=dD h 1 _ rfl
 have H:Hid _:=h
 clear h
 go_enter Tryz.func127,Tryz.ntmps127
 go_wp2_with fail
 go_end0
 refine ⟨rfl,?_,((Fr.refl _ _ _).setCell (.inr (by simp)) _).setCell (.inr (by simp)) _⟩
 exact aB0 (aB0 H.out 0 _) 1 _
theorem cE (b:Nat) (s:List UInt8) (bad:Bool) (w:World) (h:lA w b s bad) (hs:s.length≤1000000000) :
    Calls Tryz.prog 126 #[.pointer (some ⟨b,0,none⟩)] w fun e w'=>∃z s' bad',e=.returned (.int .i64 z)/\lA w' b s' bad'/\Fr w.heap.size [b] w w'/\((tk s=some (z,s')/\bad'=bad)\/(tk s=none/\z=0/\s'=[]/\bad'=true)):=by
 obtain ⟨T,hT0⟩:∃T,T=kL s:=⟨_,rfl⟩
 have hTs:T.size=s.length:=by rw[hT0,qY]
 have hT:Hid (T=kL s):=hT0
 obtain ⟨c0,f0⟩:=dD h 0 _ rfl
 obtain ⟨c1,f1⟩:=dD h 1 _ rfl
 have c0':w.cell? ⟨b,0,none⟩=some (.string T):=by rw[hT0];exact c0
 have c1':w.cell? ⟨b,1,none⟩=some (.bool bad):=c1
 obtain ⟨N,hN0⟩:∃N:Nat,N=min T.size 10:=⟨_,rfl⟩
 have hmin:min (T.size:Int) 10=(N:Int):=by omega
 have hN1:N≤T.size:=by omega
 have hN2:N≤10:=by omega
 have hN3:Hid (N=min T.size 10):=hN0
 have H:Hid (lA w b s bad):=h
 have HTs:Hid (T.size=s.length):=hTs
 have hTb:T.size≤1000000000:=by omega
 clear h c0 c1 hT0 hN0 hTs
 go_enter Tryz.func126,Tryz.ntmps126
 go_upto_region 3 with fail
 go_loopw [3,13] (fun a i wr=>∃(k:Nat) (u:Nat),k≤N/\i=.int .i64 k/\a=.int .u64 u/\u<18446744073709551616/\wr=w/\Hid (u=vb s k/\tk s=Aj s (10-k) k)) (fun _ i _=>N-(intOf i).toNat)
 case atStart=>exact ⟨0,0,Nat.zero_le _,rfl,rfl,by decide,rfl,rfl,rfl⟩
 case round=>
  obtain ⟨k,u,hk,rfl,rfl,hu,rfl,X⟩:=hrel
  by_cases hlt:k<N
  ·have hkT:k<T.size:=by omega
   obtain ⟨c,hc⟩:∃c,c=T[k].toNat:=⟨_,rfl⟩
   have hc2:c=(s.getD k 0).toNat:=by
    rw[hc]
    have:=hT.out
    subst this
    exact bQ3 s k hkT
   have hc256:c<256:=by rw[hc];exact T[k].toNat_lt
   obtain ⟨u2,hu2⟩:∃u2,Hid (u2=vb s (k+1)):=⟨_,rfl⟩
   have hu2lt:u2<18446744073709551616:=by rw[hu2.out];exact bA8 _ _
   have hor:bits .or .u64 (u:Int) (IntKind.u64.wrap (IntKind.u64.wrap (bits .and .u8 (c:Int) 127)*2 ^ (7*k)))=(u2:Int):=by
    have e3:((c % 128:Nat):Int) % 18446744073709551616*2 ^ (7*k) % 18446744073709551616=((c % 128*2 ^ (7*k) % 18446744073709551616:Nat):Int):=by
     rw[Int.emod_eq_of_lt (a:=((c % 128:Nat):Int)) (by omega) (by omega),Int.natCast_emod (c % 128*2 ^ (7*k)),Int.natCast_mul,Int.natCast_pow]
     rfl
    rw[cG8 c hc256,IntKind.wrap_u64,IntKind.wrap_u64,e3,uI u _ hu (Nat.mod_lt _ (by decide)),hu2.out,<-cH8 s k c (by omega) hc2,X.out.1]
   have hstep:Hid (Aj s (10-k) k=if 128≤c then Aj s (10-(k+1)) (k+1) else if P8 (uv u2)=s.take (k+1) then some (uv u2,s.drop (k+1)) else none):=by
    have e:10-k=(10-(k+1))+1:=by omega
    have:Aj s (10-k) k=if 128≤c then Aj s (10-(k+1)) (k+1) else if P8 (uv u2)=s.take (k+1) then some (uv u2,s.drop (k+1)) else none:=by
     rw[e,Aj,if_pos (by have:=HTs.out;omega),<-hc2,hu2.out]
    exact this
   have HU:Hid (u=vb s k/\c=(s.getD k 0).toNat):=⟨X.out.1,hc2⟩
   clear hc2
   by_cases h128:128≤c
   ·rw[hc] at hor h128
    go_wp2_with fail
    go_roundw
    case rel=>
     refine ⟨k+1,u2,by omega,by go_num,rfl,hu2lt,(by first|rfl|trivial),hu2.out,?_⟩
     rw[X.out.2,hstep.out,if_pos (by rw[hc];exact h128)]
    case measure=>simp[intOf];omega
   ·have huf:=zX hu2lt
    have hun:=fun W=>K0 u2 W hu2lt
    obtain ⟨z,hz⟩:∃z,Hid (z=uv u2):=⟨_,rfl⟩
    rw[<-hz.out] at hun huf
    obtain ⟨T2,hT2⟩:∃T2,T2=T.extract 0 (k+1):=⟨_,rfl⟩
    have hsl:∀W,(Instr.sliceAt 9 (.string T) none (some (.int .i64 ((k:Int)+1))) none).run Tryz.prog W=.ok (.string T2) W:=fun W=>by
     rw[run_sliceAt_string W _ _ _ _ _ Tryz.underlying9,run_slice_string_h W _ T Tryz.underlying9 .i64 ((k:Int)+1) (by omega) (by omega),hT2]
     rfl
    have HT2:Hid (T2=T.extract 0 (k+1)):=hT2
    have hwr:IntKind.i64.wrap ((k:Int)+1)=(k:Int)+1:=by simp only[IntKind.wrap,IntKind.bits,IntKind.signed];simp;omega
    clear hT2
    have HC:Hid (¬128≤c):=h128
    rw[hc] at hor h128
    go_upto_region 7 with fail
    go_region_held3 (fun w'=>w'.cell? ⟨b,0,none⟩=some (.string T)) (first|exact c0'|go_keep)
     ((first|(go_at_call 181;refine (hun _).mono ?_;rintro e w5 ⟨rfl,hw5⟩;obtain rfl:=hw5.symm)|fail))
    all_goals
     obtain ⟨S9,hS9⟩:∃S9,Hid (S9=kL (P8 z)):=⟨_,rfl⟩
     have hadd:Calls Tryz.prog 48 #[.slice none 0 0,.int .i64 z] wr.drew fun e w'=>∃ao n cap,e=.returned (.slice ao n cap)/\(convert 99 9 (.slice ao n cap)).run Tryz.prog w'=.ok (.string S9) w'/\(w'.cell? ⟨b,0,none⟩=some (.string T)/\w'.frozen? ⟨b,0,none⟩=false)/\Hid (Below wr.heap.size wr w'/\lA w' b s bad):=by
      refine (aA5 wr.heap.size (.slice none 0 0) [] z wr.drew (.inl (World.ownsRow_nil _ _ _ _)) (Nat.le_refl _) (by simp) huf.1 huf.2).mono fun e w' ⟨v',he,hb⟩=>?_
      obtain ⟨ao,cap,hv⟩:=I9.shape (.inl hb.own)
      subst hv
      have hbl:Below wr.heap.size wr w':=⟨hb.grown.os,hb.grown.tape,hb.grown.output,hb.grown.size,fun k hk=>hb.grown.block k hk (by simp[Value.ownBlock])⟩
      have hrd:lA w' b s bad:=by
       unfold lA
       rw[hbl.block b (aB H.out)];exact H.out
      refine ⟨ao,_,cap,he,?_,?_,hbl,hrd⟩
      ·rw[hS9.out]
       exact xE (.inl hb.own)
      ·rw[hT.out];exact dD hrd 0 _ rfl
     have Hk:Hid (tk s=if P8 z=s.take (k+1) then some (z,s.drop (k+1)) else none):=by
      have:=X.out.2
      rw[hstep.out,if_neg HC.out,<-hz.out] at this
      exact this
     have HS:Hid (S9=T2↔P8 z=s.take (k+1)):=by
      have e:T2=kL (s.take (k+1)):=by rw[HT2.out,hT.out];exact vM s _
      have:S9=T2↔P8 z=s.take (k+1):=by
       rw[hS9.out,e]
       exact ⟨zZ,fun h=>by rw[h]⟩
      exact this
     clear hun huf hsl hor h128
     by_cases heq:S9=T2
     ·subst heq
      obtain ⟨T3,hT3⟩:∃T3,T3=T.extract (k+1) T.size:=⟨_,rfl⟩
      have hsl2:∀W,(Instr.sliceAt 9 (.string T) (some (.int .i64 ((k:Int)+1))) none none).run Tryz.prog W=.ok (.string T3) W:=fun W=>by
       rw[run_sliceAt_string W _ _ _ _ _ Tryz.underlying9,run_slice_string_l W _ T Tryz.underlying9 .i64 ((k:Int)+1) (by omega) (by omega),hT3]
       rfl
      have HT3:Hid (T3=kL (s.drop (k+1))):=by
       have e:T3=kL (s.drop (k+1)):=by rw[hT3,hT.out];exact O4 s _
       exact e
      clear hT3
      go_wp2_with (go_at_call 48;refine hadd.mono ?_;rintro e w6 ⟨ao,n6,cap,rfl,hcv,⟨cc0,ff0⟩,Y⟩;clear hadd)
      go_ret
      refine ⟨z,s.drop (k+1),bad,rfl,?_,(Fr.of_below Y.out.1 [b]).setCell (.inr (by simp)) _,.inl ⟨by rw[Hk.out,if_pos (HS.out.1 (by first|rfl|trivial))],rfl⟩⟩
      unfold lA
      rw[<-HT3.out]
      exact aB0 Y.out.2 0 _
     ·have hne1:(S9.toList==T2.toList)=false:=(Lib.bytes_beq_false_iff _ _).2 heq
      have HNE:Hid (S9≠T2):=heq
      clear heq
      go_wp2_with (first|(go_at_call 48;refine hadd.mono ?_;rintro e w6 ⟨ao,n6,cap,rfl,hcv,⟨cc0,ff0⟩,Y⟩;clear hadd)|(go_at_call 127;refine (rR b s bad w6 Y.out.2).mono ?_;rintro e w7 ⟨rfl,Z⟩))
      go_ret
      refine ⟨0,[],true,rfl,Z.out.1,(Fr.of_below Y.out.1 [b]).trans (Z.out.2.mono Y.out.1.size (fun x hx _=>hx)),.inr ⟨by rw[Hk.out,if_neg (fun e=>HNE.out (HS.out.2 e))],rfl,rfl,rfl⟩⟩
  ·obtain rfl:k=N:=by omega
   have hnone:tk s=none:=by
    rw[X.out.2]
    have h1:=hN3.out
    have h2:=HTs.out
    by_cases h10:k=10
    ·rw[h10];rfl
    ·exact bQ0 s _ _ (by omega)
   have HNO:Hid (tk s=none):=hnone
   clear hnone
   go_wp2_with (go_at_call 127;refine (rR b s bad wr H.out).mono ?_;rintro e w7 ⟨rfl,Z⟩)
   go_ret
   exact ⟨0,[],true,rfl,Z.out.1,Z.out.2,.inr ⟨HNO.out,rfl,rfl,rfl⟩⟩
end Ix
end
section
open Go.RowKit
namespace Ix
open Nx
theorem jI (b:Nat) (s:List UInt8) (bad:Bool) (w:World) (h:lA w b s bad) (hs:s.length≤1000000000) :
    Calls Tryz.prog 83 #[.pointer (some ⟨b,0,none⟩)] w fun e w'=>∃(z:Nat) (s':List UInt8) (bad':Bool),e=.returned (.int .i64 z)/\z≤4000/\Hid (lA w' b s' bad'/\Fr w.heap.size [b] w w'/\s'.length≤s.length/\((sm s=some ((z:Int),s')/\bad'=bad)\/(sm s=none/\z=0/\s'=[]/\bad'=true))):=by
 have hn:=cE b s bad w h hs
 rcases htk:tk s with _|⟨z,r⟩
 ·have hn':Calls Tryz.prog 126 #[.pointer (some ⟨b,0,none⟩)] w fun e w'=>e=.returned (.int .i64 0)/\Hid (lA w' b [] true/\Fr w.heap.size [b] w w'):=
   hn.mono fun e w' ⟨z,s',bad',he,h1,h2,h3⟩=>by
    rcases h3 with ⟨h3,_⟩|⟨_,rfl,rfl,rfl⟩
    ·rw[htk] at h3;cases h3
    ·exact ⟨he,h1,h2⟩
  have HS:Hid _:=aD6 htk
  clear hn htk h
  go_enter Tryz.func83,Tryz.ntmps83
  go_wp2_with (go_at_call 126;refine hn'.mono ?_;rintro e w1 ⟨rfl,X⟩;clear hn')
  go_ret
  exact ⟨0,[],true,rfl,by omega,X.out.1,X.out.2,by simp,.inr ⟨HS.out,rfl,rfl,rfl⟩⟩
 ·have hn':Calls Tryz.prog 126 #[.pointer (some ⟨b,0,none⟩)] w fun e w'=>e=.returned (.int .i64 z)/\Hid (lA w' b r bad/\Fr w.heap.size [b] w w'):=
   hn.mono fun e w' ⟨z',s',bad',he,h1,h2,h3⟩=>by
    rcases h3 with ⟨h3,rfl⟩|⟨h3,_⟩
    ·rw[htk] at h3
     injection h3 with h3
     injection h3 with h4 h5
     subst h4;subst h5
     exact ⟨he,h1,h2⟩
    ·rw[htk] at h3;cases h3
  have hlt:=mG htk
  by_cases hz:0≤z/\z≤4000
  ·obtain ⟨k,rfl⟩:∃k:Nat,z=(k:Int):=⟨z.toNat,by omega⟩
   have HS:Hid _:=bY2 htk hz.1 hz.2
   have hk:k≤4000:=by omega
   clear hn htk h hz
   go_enter Tryz.func83,Tryz.ntmps83
   go_wp2_with (go_at_call 126;refine hn'.mono ?_;rintro e w1 ⟨rfl,X⟩;clear hn')
   go_ret
   exact ⟨k,r,bad,rfl,hk,X.out.1,X.out.2,by omega,.inl ⟨HS.out,rfl⟩⟩
  ·have HS:Hid _:=Q4 htk hz
   clear hn htk h
   by_cases hneg:z<0
   ·clear hz
    go_enter Tryz.func83,Tryz.ntmps83
    go_wp2_with (first|(go_at_call 126;refine hn'.mono ?_;rintro e w1 ⟨rfl,X⟩;clear hn')|(go_at_call 127;refine (rR b r bad w1 X.out.1).mono ?_;rintro e w2 ⟨rfl,Y⟩))
    go_ret
    exact ⟨0,[],true,rfl,by omega,Y.out.1,X.out.2.trans (Y.out.2.mono X.out.2.size (fun x hx _=>hx)),by simp,.inr ⟨HS.out,rfl,rfl,rfl⟩⟩
   ·have hbig:4000<z:=by omega
    clear hz
    go_enter Tryz.func83,Tryz.ntmps83
    go_wp2_with (first|(go_at_call 126;refine hn'.mono ?_;rintro e w1 ⟨rfl,X⟩;clear hn')|(go_at_call 127;refine (rR b r bad w1 X.out.1).mono ?_;rintro e w2 ⟨rfl,Y⟩))
    go_ret
    exact ⟨0,[],true,rfl,by omega,Y.out.1,X.out.2.trans (Y.out.2.mono X.out.2.size (fun x hx _=>hx)),by simp,.inr ⟨HS.out,rfl,rfl,rfl⟩⟩
end Ix
end
end Go.Proofs.YtcdbhoknhnimcaaGreatDoor
