import Derived.Test.YtcdbhoknhnimcaaGreatDoorSNt3
import Derived.Deep.RegionHeld3
import Derived.Lib.SlicesCompact
import Derived.Shelf.Sort.Plain
import Derived.Ground.Names2Prog
import Derived.Shelf.Slices.Clone
import Derived.Shelf.Slices.CompactI
import Derived.Shelf.Slices.Cells
import Derived.Shelf.Slices.In.SortNone
import Derived.Test.YtcdbhoknhnimcaaGreatDoorProg
import Derived.Lib.OwnBridge
import Derived.Sort.OwnSortedInts
set_option maxHeartbeats 1000000
namespace Go.Proofs.YtcdbhoknhnimcaaGreatDoor
section
open Go.RowKit
namespace Nx
theorem cL4 (ad:Option Addr) (b off n cap k:Nat) (hk:k<n) (ha:0<n->ad=some ⟨b,off,none⟩) (w:World):(Instr.indexAt 24 (.slice ad n cap) (.int .i64 (k:Int))).run Tryz.prog w=.ok (.pointer (some ⟨b,off+k*5,none⟩)) w:=by
 obtain rfl:=ha (by omega)
 rw[run_indexAt_slice _ _ _ _ _ _ _ (by kernel_rfl),if_pos ⟨by omega,by omega⟩]
 have e:(sizeOf (Tryz.prog.elem 24)).run Tryz.prog w=.ok 5 w:=by kernel_rfl
 rw[e]
 simp[Result.andThen,Addr.add]
end Nx
end
section
namespace Nx
open Go.Lib
theorem V9 (s:List Int) (j:Nat) (hj:j<s.length):keeps s.toArray j=true↔(j=0\/s[j]≠s[j-1]):=by
 unfold keeps
 have h1:s.toArray[j]! = s[j]:=by simp[hj]
 have h2:s.toArray[j-1]! = s[j-1]:=by
  have:j-1<s.length:=by omega
  simp[this]
 rw[h1,h2]
 simp
theorem F3 (s:List Int):(Lib.compact s).length<s.length↔∃j,j<s.length/\keeps s.toArray j=false:=by
 have e:(Lib.compact s).length=((List.range s.length).filter (keeps s.toArray)).length:=by unfold Lib.compact compactUpTo;simp
 rw[e]
 have hl:((List.range s.length).filter (keeps s.toArray)).length≤(List.range s.length).length:=List.length_filter_le _ _
 rw[List.length_range] at hl
 constructor
 ·intro h
  apply Classical.byContradiction
  intro hn
  have:(List.range s.length).filter (keeps s.toArray)=List.range s.length:=List.filter_eq_self.2 fun j hj=>by
   have hj':=List.mem_range.1 hj
   cases hk:keeps s.toArray j with
   | true=>rfl
   | false=>exact absurd ⟨j,hj',hk⟩ hn
  rw[this,List.length_range] at h
  omega
 ·rintro ⟨j,hj,hk⟩
  rcases Nat.lt_or_ge ((List.range s.length).filter (keeps s.toArray)).length s.length with h|h
  ·exact h
  ·have h2:((List.range s.length).filter (keeps s.toArray)).length=(List.range s.length).length:=by rw[List.length_range];omega
   have h3:=List.length_filter_eq_length_iff.1 h2 j (List.mem_range.2 hj)
   rw[hk] at h3;cases h3
theorem aD5 (s:List Int) (hs:s.Pairwise (·≤·)):(Lib.compact s).length<s.length↔¬s.Nodup:=by
 rw[F3]
 constructor
 ·rintro ⟨j,hj,hk⟩ hn
  have h1:¬(j=0\/s[j]≠s[j-1]):=fun h=>by rw[(V9 s j hj).2 h] at hk;cases hk
  have h0:j≠0:=fun h=>h1 (.inl h)
  have e:s[j]=s[j-1]:=Classical.byContradiction fun h=>h1 (.inr h)
  exact (List.pairwise_iff_getElem.1 hn) (j-1) j (by omega) hj (by omega) e.symm
 ·intro hn
  apply Classical.byContradiction
  intro hno
  have hall:∀j (hj:j<s.length),0<j->s[j]≠s[j-1]:=fun j hj h0=>by
   have hk:keeps s.toArray j=true:=by
    cases hk:keeps s.toArray j with
    | true=>rfl
    | false=>exact absurd ⟨j,hj,hk⟩ hno
   rcases (V9 s j hj).1 hk with h|h
   ·omega
   ·exact h
  apply hn
  apply List.pairwise_iff_getElem.2
  intro i j hi hj hij e
  have hle:=List.pairwise_iff_getElem.1 hs
  have h1:s[j-1]≤s[j]:=hle (j-1) j (by omega) hj (by omega)
  have h2:=hall j hj (by omega)
  by_cases hc:i=j-1
  ·subst hc;exact h2 e.symm
  ·have h3:s[i]≤s[j-1]:=hle i (j-1) hi (by omega) (by omega)
   have:s[j]=s[j-1]:=by omega
   exact h2 this
theorem bV9 (zs:List Int):(Lib.compact (zs.mergeSort fun x y=>decide (x≤y))).length<zs.length↔¬zs.Nodup:=by
 have hp:=List.mergeSort_perm zs (fun x y=>decide (x≤y))
 have hs:(zs.mergeSort fun x y=>decide (x≤y)).Pairwise (·≤·):=by
  have:=List.pairwise_mergeSort (le:=fun x y:Int=>decide (x≤y)) (fun a b c h1 h2=>by simp at *;omega) (fun a b=>by simp;omega) zs
  exact this.imp fun h=>by simpa using h
 have h:=aD5 _ hs
 rw[hp.length_eq,hp.nodup_iff] at h
 exact h
end Nx
end
end Go.Proofs.YtcdbhoknhnimcaaGreatDoor
namespace Go.Proofs
open Go.Shelf
def Tryz.lays189_ren:Go.Shelf.Ren:=⟨fun|189=>73|125=>116|257=>115|128=>175|129=>176|294=>166|295=>167|296=>168|297=>169|298=>170|299=>171|216=>172|300=>173|301=>174|328=>206|329=>207|330=>208|331=>209|332=>210|215=>211|343=>245|n=>n,fun|28=>23|3=>3|46=>108|0=>0|51=>241|53=>148|4=>4|183=>234|182=>233|131=>143|5=>5|9=>9|218=>277|222=>107|228=>315|229=>198|n=>n,fun|n=>n⟩
theorem Tryz.lays189:Go.Proofs.Lays.n189 Tryz.prog Tryz.lays189_ren:={
 mixed:=by kernel_rfl
 f125:=Tryz.func116.trans (congrArg some (by kernel_rfl))
 f128:=Tryz.func175.trans (congrArg some (by kernel_rfl))
 f129:=Tryz.func176.trans (congrArg some (by kernel_rfl))
 f189:=Tryz.func73.trans (congrArg some (by kernel_rfl))
 f215:=Tryz.func211.trans (congrArg some (by kernel_rfl))
 f216:=Tryz.func172.trans (congrArg some (by kernel_rfl))
 f257:=Tryz.func115.trans (congrArg some (by kernel_rfl))
 f294:=Tryz.func166.trans (congrArg some (by kernel_rfl))
 f295:=Tryz.func167.trans (congrArg some (by kernel_rfl))
 f296:=Tryz.func168.trans (congrArg some (by kernel_rfl))
 f297:=Tryz.func169.trans (congrArg some (by kernel_rfl))
 f298:=Tryz.func170.trans (congrArg some (by kernel_rfl))
 f299:=Tryz.func171.trans (congrArg some (by kernel_rfl))
 f300:=Tryz.func173.trans (congrArg some (by kernel_rfl))
 f301:=Tryz.func174.trans (congrArg some (by kernel_rfl))
 f328:=Tryz.func206.trans (congrArg some (by kernel_rfl))
 f329:=Tryz.func207.trans (congrArg some (by kernel_rfl))
 f330:=Tryz.func208.trans (congrArg some (by kernel_rfl))
 f331:=Tryz.func209.trans (congrArg some (by kernel_rfl))
 f332:=Tryz.func210.trans (congrArg some (by kernel_rfl))
 f343:=Tryz.func245.trans (congrArg some (by kernel_rfl))
 t0:=Tryz.underlying0
 a0:=Tryz.isAgg0
 z0:=Tryz.sizeOf0
 v0:=Tryz.zeroValue0
 t3:=Tryz.underlying3
 a3:=Tryz.isAgg3
 z3:=Tryz.sizeOf3
 v3:=Tryz.zeroValue3
 t4:=Tryz.underlying4
 a4:=Tryz.isAgg4
 z4:=Tryz.sizeOf4
 v4:=Tryz.zeroValue4
 t5:=Tryz.underlying5
 a5:=Tryz.isAgg5
 z5:=Tryz.sizeOf5
 v5:=Tryz.zeroValue5
 t9:=Tryz.underlying9
 a9:=Tryz.isAgg9
 z9:=Tryz.sizeOf9
 v9:=Tryz.zeroValue9
 t28:=Tryz.underlying23
 a28:=Tryz.isAgg23
 z28:=Tryz.sizeOf23
 v28:=Tryz.zeroValue23
 t46:=Tryz.underlying108
 a46:=Tryz.isAgg108
 z46:=Tryz.sizeOf108
 v46:=Tryz.zeroValue108
 t51:=Tryz.underlying241
 a51:=Tryz.isAgg241
 z51:=Tryz.sizeOf241
 v51:=Tryz.zeroValue241
 t53:=Tryz.underlying148
 a53:=Tryz.isAgg148
 z53:=Tryz.sizeOf148
 v53:=Tryz.zeroValue148
 t131:=Tryz.underlying143
 a131:=Tryz.isAgg143
 z131:=Tryz.sizeOf143
 v131:=Tryz.zeroValue143
 t182:=Tryz.underlying233
 a182:=Tryz.isAgg233
 z182:=Tryz.sizeOf233
 v182:=Tryz.zeroValue233
 t183:=Tryz.underlying234
 a183:=Tryz.isAgg234
 z183:=Tryz.sizeOf234
 v183:=Tryz.zeroValue234
 t218:=Tryz.underlying277
 a218:=Tryz.isAgg277
 z218:=Tryz.sizeOf277
 v218:=Tryz.zeroValue277
 t222:=Tryz.underlying107
 a222:=Tryz.isAgg107
 z222:=Tryz.sizeOf107
 v222:=Tryz.zeroValue107
 t228:=Tryz.underlying315
 a228:=Tryz.isAgg315
 z228:=Tryz.sizeOf315
 v228:=Tryz.zeroValue315
 t229:=Tryz.underlying198
 a229:=Tryz.isAgg198
 z229:=Tryz.sizeOf198
 v229:=Tryz.zeroValue198 }
open Go.Sort Go.RowKit in
theorem Tryz.slices_Sort_int (blk off cap:Nat) (zs:List Int) (w:World) (hH:Holds (Value.int .i64) w blk off zs.toArray) (hblk:blk<w.heap.size) (hsz:zs.length<4611686018427387904) :
    Calls Tryz.prog 73 #[.slice (some ⟨blk,off,none⟩) zs.length cap] w fun e w'=>
     e=.returned (.tuple #[])/\∃n os,w'=grow (putRow (Value.int .i64) (Sort.ahead w n) blk off (zs.mergeSort fun x y=>decide (x≤y)).toArray) os:=Any.slices_Sort_int Tryz.lays189 blk off cap zs w hH hblk hsz
def Tryz.laysNm215_ren:Go.Shelf.Ren:=⟨fun|15=>32|n=>n,fun|22=>23|3=>3|4=>4|n=>n,fun|n=>n⟩
theorem Tryz.laysNm215:Go.Proofs.Lays2.n15 Tryz.prog Tryz.laysNm215_ren:={
 mixed:=by kernel_rfl
 f15:=Tryz.func32.trans (congrArg some (by kernel_rfl))
 t3:=Tryz.underlying3
 a3:=Tryz.isAgg3
 z3:=Tryz.sizeOf3
 v3:=Tryz.zeroValue3
 t4:=Tryz.underlying4
 a4:=Tryz.isAgg4
 z4:=Tryz.sizeOf4
 v4:=Tryz.zeroValue4
 t22:=Tryz.underlying23
 a22:=Tryz.isAgg23
 z22:=Tryz.sizeOf23
 v22:=Tryz.zeroValue23
 i3:=by kernel_rfl }
open Go.RowKit Go.Lib in
theorem Tryz.slices_Clone_int (b off n c:Nat) (zs:List Int) (w:World) (hz:n≤zs.length) (hbig:n*8≤140737488355328) (hc:∀j,j<zs.length->w.cell? ⟨b,off+j,none⟩=some (.int .i64 (zs.getD j 0))) :
    Calls Tryz.prog 32 #[.slice (some ⟨b,off,none⟩) n c] w fun e w'=>∃v',e=.returned v'/\w'.ownsRow w.heap.size 3 1 v' n ((zs.take n).map (Value.int .i64))/\v'≠.slice none 0 0/\Below w.heap.size w w':=Any.slices_Clone_int Tryz.laysNm215 b off n c zs w hz hbig hc
open Go.RowKit Go.Lib in
theorem Tryz.slices_Clone_int_nil (n c:Nat) (w:World) :
    Calls Tryz.prog 32 #[.slice none n c] w fun e w'=>e=.returned (.slice none 0 0)/\w'=w:=Any.slices_Clone_int_nil Tryz.laysNm215 n c w
open Go.RowKit Go.Lib in
theorem Tryz.slices_Clone_int_zero (a:Addr) (c:Nat) (w:World) :
    Calls Tryz.prog 32 #[.slice (some a) 0 c] w fun e w'=>∃v',e=.returned v'/\w'.ownsRow w.heap.size 3 1 v' 0 []/\v'≠.slice none 0 0/\Below w.heap.size w w':=Any.slices_Clone_int_zero Tryz.laysNm215 a c w
def Tryz.laysNm220_ren:Go.Shelf.Ren:=⟨fun|20=>121|n=>n,fun|22=>23|3=>3|4=>4|0=>0|n=>n,fun|n=>n⟩
theorem Tryz.laysNm220:Go.Proofs.Lays2.n20 Tryz.prog Tryz.laysNm220_ren:={
 mixed:=by kernel_rfl
 f20:=Tryz.func121.trans (congrArg some (by kernel_rfl))
 t0:=Tryz.underlying0
 a0:=Tryz.isAgg0
 z0:=Tryz.sizeOf0
 v0:=Tryz.zeroValue0
 t3:=Tryz.underlying3
 a3:=Tryz.isAgg3
 z3:=Tryz.sizeOf3
 v3:=Tryz.zeroValue3
 t4:=Tryz.underlying4
 a4:=Tryz.isAgg4
 z4:=Tryz.sizeOf4
 v4:=Tryz.zeroValue4
 t22:=Tryz.underlying23
 a22:=Tryz.isAgg23
 z22:=Tryz.sizeOf23
 v22:=Tryz.zeroValue23
 i3:=by kernel_rfl }
open Go.RowKit Go.Lib Go.Sort in
theorem Tryz.slices_Compact_int (blk off cap:Nat) (zs:List Int) (w:World) (hH:Holds (Value.int .i64) w blk off zs.toArray) (hsz:zs.length≤9223372036854775807) (hcap:zs.length≤cap) :
    Calls Tryz.prog 121 #[.slice (some ⟨blk,off,none⟩) zs.length cap] w fun e w'=>e=.returned (.slice (some ⟨blk,off,none⟩) (Lib.compact zs).length cap)/\∃q,w'=putRow (Value.int .i64) (Sort.ahead w q) blk off (Lib.compact zs++List.replicate (zs.length-(Lib.compact zs).length) 0).toArray:=Any.slices_Compact_int Tryz.laysNm220 blk off cap zs w hH hsz hcap
open Go.RowKit Go.Lib Go.Sort in
theorem Tryz.slices_Compact_int_empty (a:Option Addr) (cap:Nat) (w:World) :
    Calls Tryz.prog 121 #[.slice a 0 cap] w fun e w'=>e=.returned (.slice a 0 cap)/\w'=w:=Any.slices_Compact_int_empty Tryz.laysNm220 a cap w
open Go.RowKit Go.Sort in
theorem Tryz.slices_Sort_int_none (p:Option Addr) (cap:Nat) (w:World) :
    Calls Tryz.prog 73 #[.slice p 0 cap] w fun e w'=>e=.returned (.tuple #[])/\w'=w:=Any.slices_Sort_int_none Tryz.lays189 p cap w
end Go.Proofs
namespace Go.Proofs.YtcdbhoknhnimcaaGreatDoor
section
open Go.RowKit Go.Sort
namespace Nx
theorem cG0 {A:Nat->Prop}(v:Value) (zs:List Int) (w:World) (h:cY A w v zs) (hbig:zs.length≤100000) (hp:0<zs.length) :
    Calls Tryz.prog 32 #[v] w fun e w'=>∃v',e=.returned v'/\w'.ownsRow w.heap.size 3 1 v' zs.length (zs.map (Value.int .i64))/\v'≠.slice none 0 0/\Below w.heap.size w w':=by
 obtain ⟨ad,b,off,cap,rfl,h1,h2⟩:=h
 obtain ⟨rfl,_⟩:=h1 hp
 have:=Tryz.slices_Clone_int b off zs.length cap zs w (Nat.le_refl _) (by omega) h2
 rw[List.take_length] at this
 exact this
theorem aC6 (ad:Option Addr) (c:Nat) (w:World):Calls Tryz.prog 99 #[.slice ad 0 c] w fun e w'=>e=.returned (.bool false)/\Below w.heap.size w w':=by
 have hcl:Calls Tryz.prog 32 #[.slice ad 0 c] w fun e w'=>∃p cc,e=.returned (.slice p 0 cc)/\Below w.heap.size w w':=by
  cases ad with
  | none=>exact (Tryz.slices_Clone_int_nil 0 c w).mono fun e w' ⟨he,hw⟩=>⟨_,_,he,by rw[hw];exact Below.refl _ _⟩
  | some a=>
   refine (Tryz.slices_Clone_int_zero a c w).mono fun e w' ⟨v',he,ho,_,hb⟩=>?_
   rcases ho.2 with ⟨rfl,_⟩|⟨g,cap,cur,rfl,_⟩
   ·exact ⟨_,_,he,hb⟩
   ·exact ⟨_,_,he,hb⟩
 have hs:=fun p cc w1=>Tryz.slices_Sort_int_none p cc w1
 have hk:=fun p cc w1=>Tryz.slices_Compact_int_empty p cc w1
 go_enter Tryz.func99,Tryz.ntmps99
 go_wp2_with (first|(go_at_call 32;refine hcl.mono ?_;rintro e w1 ⟨p,cc,rfl,hb⟩)|(go_at_call 73;refine (hs _ _ _).mono ?_;rintro e w2 ⟨rfl,hw2⟩;obtain rfl:=hw2.symm)|(go_at_call 121;refine (hk _ _ _).mono ?_;rintro e w3 ⟨rfl,hw3⟩;obtain rfl:=hw3.symm))
 go_ret
 exact ⟨rfl,hb⟩
theorem cI5 (g n cap:Nat) (zs ss:List Int) (w:World) (hH:Holds (Value.int .i64) w g 0 zs.toArray) (hgl:g<w.heap.size) (hn:zs.length=n) (hb:n≤100000) (hs:ss=zs.mergeSort fun x y=>decide (x≤y)) :
    Calls Tryz.prog 73 #[.slice (some ⟨g,0,none⟩) n cap] w fun e w2=>e=.returned (.tuple #[])/\Hid (Holds (Value.int .i64) w2 g 0 ss.toArray/\w.grownBy w2 (some g)):=by
 subst hs hn
 refine (Tryz.slices_Sort_int g 0 cap zs w hH hgl (by omega)).mono fun e w2 ⟨he,nn,os,hw2⟩=>⟨he,?_,?_⟩
 ·rw[hw2]
  exact holds_grow (Value.int .i64) _ os g 0 _ (by simpa [putRow,mapBlock,Sort.ahead] using hgl) (holds_putRow (Value.int .i64) _ g 0 _ _ (holds_ahead (Value.int .i64) w nn g 0 _ hH) (by simp))
 ·rw[hw2];exact grownBy_sortedI _
theorem cM1 (g n cap cl:Nat) (ss:List Int) (w:World) (hH:Holds (Value.int .i64) w g 0 ss.toArray) (hn:ss.length=n) (hb:n≤100000) (hcap:n≤cap) (hcl:cl=(Lib.compact ss).length) :
    Calls Tryz.prog 121 #[.slice (some ⟨g,0,none⟩) n cap] w fun e w3=>e=.returned (.slice (some ⟨g,0,none⟩) cl cap)/\Hid (∀B w0,Below B w0 w->B≤g->Below B w0 w3):=by
 subst hcl hn
 refine (Tryz.slices_Compact_int g 0 cap ss w hH (by omega) hcap).mono fun e w3 ⟨he,q,hw3⟩=>⟨he,fun B w0 h1 h2=>?_⟩
 rw[hw3];exact Lib.below_putRow h1 h2
theorem aC5 {A:Nat->Prop}(v:Value) (zs:List Int) (w:World) (h:cY A w v zs) (hbig:zs.length≤100000) (hp:0<zs.length) :
    Calls Tryz.prog 99 #[v] w fun e w'=>e=.returned (.bool (decide (¬zs.Nodup)))/\Below w.heap.size w w':=by
 have hcl:=cG0 v zs w h hbig hp
 obtain ⟨ad,b,off,capv,rfl,-,-⟩:=h
 obtain ⟨ss,hss⟩:∃ss,ss=zs.mergeSort fun x y=>decide (x≤y):=⟨_,rfl⟩
 obtain ⟨cl,hcl0⟩:∃cl,cl=(Lib.compact ss).length:=⟨_,rfl⟩
 have HD:Hid (decide (cl<zs.length)=decide (¬zs.Nodup)):=by
  unfold Hid
  have:=bV9 zs
  rw[<-hss,<-hcl0] at this
  by_cases hn:zs.Nodup
  ·rw[decide_eq_false (fun h=>this.1 h hn),decide_eq_false (by simpa using hn)]
  ·have:=this.2 hn
   rw[decide_eq_true this,decide_eq_true hn]
 obtain ⟨n,hn⟩:∃n,n=zs.length:=⟨_,rfl⟩
 have HL:Hid (ss.length=n):=by unfold Hid;rw[hss,List.length_mergeSort];exact hn.symm
 rw[<-hn] at hcl HD ⊢
 have HN:Hid (zs.length=n):=hn.symm
 have hb0:n≤100000:=by omega
 have HSS:Hid (ss=zs.mergeSort fun x y=>decide (x≤y)):=hss
 have HCL:Hid (cl=(Lib.compact ss).length):=hcl0
 have HCLONE:Hid (Calls Tryz.prog 32 #[.slice ad n capv] w fun e w'=>∃g cap,e=.returned (.slice (some ⟨g,0,none⟩) n cap)/\Hid (Holds (Value.int .i64) w' g 0 zs.toArray/\w.heap.size≤g/\g<w'.heap.size/\n≤cap/\Below w.heap.size w w')):=by
  refine hcl.mono fun e w1 ⟨v1,he,hown,hnn,hbel⟩=>?_
  obtain ⟨g,cap,rfl,hbg,hgl,hncap,hcm,hlen,hH⟩:=Lib.holds_of_ownsRow hown hnn
  exact ⟨g,cap,he,hH,hbg,hgl,hncap,hbel⟩
 clear hn hp hbig hss hcl0 hcl
 have hcl:=HCLONE.out
 clear HCLONE
 go_enter Tryz.func99,Tryz.ntmps99
 go_wp2_with (first
  | (go_at_call 32;refine hcl.mono ?_;rintro e w1 ⟨g,cap,rfl,X⟩
     have hsort:=cI5 g n cap zs ss w1 X.out.1 X.out.2.2.1 HN.out hb0 HSS.out
     clear hcl)
  | (go_at_call 73;refine hsort.mono ?_;rintro e w2 ⟨rfl,Y⟩
     have hcomp:=cM1 g n cap cl ss w2 Y.out.1 HL.out hb0 X.out.2.2.2.1 HCL.out
     clear hsort)
  | (go_at_call 121;refine hcomp.mono ?_;rintro e w3 ⟨rfl,Z⟩))
 go_ret
 refine ⟨by rw[<-HD.out];rfl,?_⟩
 exact Z.out _ _ (X.out.2.2.2.2.grown Y.out.2 X.out.2.2.2.2.size (fun j hj=>by cases hj;exact X.out.2.1)) X.out.2.1
theorem yG {A:Nat->Prop}(v:Value) (zs:List Int) (w:World) (h:cY A w v zs) (hbig:zs.length≤100000) :
    Calls Tryz.prog 99 #[v] w fun e w'=>e=.returned (.bool (decide (¬zs.Nodup)))/\Below w.heap.size w w':=by
 by_cases hp:0<zs.length
 ·exact aC5 v zs w h hbig hp
 ·obtain rfl:zs=[]:=List.length_eq_zero_iff.1 (by omega)
  obtain ⟨ad,b,off,cap,rfl,-,-⟩:=h
  have e:decide (¬([]:List Int).Nodup)=false:=by simp
  rw[e]
  exact aC6 ad cap w
end Nx
end
end Go.Proofs.YtcdbhoknhnimcaaGreatDoor
