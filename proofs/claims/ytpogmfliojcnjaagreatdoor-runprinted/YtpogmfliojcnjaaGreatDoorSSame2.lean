import Derived.Shelf.LaysM
import Derived.Shelf.Strconv.Itoa4
import Derived.Shelf.Strings.Repeat
import Derived.Test.YtpogmfliojcnjaaGreatDoorProg
import Derived.Test.YtpogmfliojcnjaaGreatDoorSWr3
import Derived.Lib.LaidTab
import Derived.Lib.QuietBelow
import Derived.Test.YtpogmfliojcnjaaGreatDoorSCr
import Derived.Test.YtpogmfliojcnjaaGreatDoorSRead
import Derived.Deep.RegionWith
import Derived.Deep.LoopGhost
namespace Go.Proofs
open Go.Shelf
def Tryz.laysM173_ren:Go.Shelf.Ren:=⟨fun|173=>105|246=>146|283=>174|284=>175|285=>176|286=>177|129=>207|317=>206|318=>208|319=>209|320=>210|337=>239|338=>240|n=>n,fun|2=>2|3=>3|9=>9|4=>4|171=>246|0=>0|53=>239|37=>115|5=>5|173=>249|212=>276|51=>277|20=>20|213=>278|46=>279|232=>305|233=>306|n=>n,fun|17=>5|18=>11|19=>12|n=>n⟩
theorem Tryz.laysM173:Go.Proofs.LaysM.n173 Tryz.prog Tryz.laysM173_ren:={
 mixed:=by kernel_rfl
 f129:=Tryz.func207.trans (congrArg some (by kernel_rfl))
 f173:=Tryz.func105.trans (congrArg some (by kernel_rfl))
 f246:=Tryz.func146.trans (congrArg some (by kernel_rfl))
 f283:=Tryz.func174.trans (congrArg some (by kernel_rfl))
 f284:=Tryz.func175.trans (congrArg some (by kernel_rfl))
 f285:=Tryz.func176.trans (congrArg some (by kernel_rfl))
 f286:=Tryz.func177.trans (congrArg some (by kernel_rfl))
 f317:=Tryz.func206.trans (congrArg some (by kernel_rfl))
 f318:=Tryz.func208.trans (congrArg some (by kernel_rfl))
 f319:=Tryz.func209.trans (congrArg some (by kernel_rfl))
 f320:=Tryz.func210.trans (congrArg some (by kernel_rfl))
 f337:=Tryz.func239.trans (congrArg some (by kernel_rfl))
 f338:=Tryz.func240.trans (congrArg some (by kernel_rfl))
 t0:=Tryz.underlying0
 a0:=Tryz.isAgg0
 z0:=Tryz.sizeOf0
 v0:=Tryz.zeroValue0
 t2:=Tryz.underlying2
 a2:=Tryz.isAgg2
 z2:=Tryz.sizeOf2
 v2:=Tryz.zeroValue2
 t3:=Tryz.underlying3
 a3:=Tryz.isAgg3
 z3:=Tryz.sizeOf3
 v3:=Tryz.zeroValue3
 t4:=Tryz.underlying4
 a4:=Tryz.isAgg4
 z4:=Tryz.sizeOf4
 v4:=Tryz.zeroValue4
 t5:=Tryz.underlying5
 a5:=Tryz.isAgg5
 z5:=Tryz.sizeOf5
 v5:=Tryz.zeroValue5
 t9:=Tryz.underlying9
 a9:=Tryz.isAgg9
 z9:=Tryz.sizeOf9
 v9:=Tryz.zeroValue9
 t20:=Tryz.underlying20
 a20:=Tryz.isAgg20
 z20:=Tryz.sizeOf20
 v20:=Tryz.zeroValue20
 t37:=Tryz.underlying115
 a37:=Tryz.isAgg115
 z37:=Tryz.sizeOf115
 v37:=Tryz.zeroValue115
 t46:=Tryz.underlying279
 a46:=Tryz.isAgg279
 z46:=Tryz.sizeOf279
 v46:=Tryz.zeroValue279
 t51:=Tryz.underlying277
 a51:=Tryz.isAgg277
 z51:=Tryz.sizeOf277
 v51:=Tryz.zeroValue277
 t53:=Tryz.underlying239
 a53:=Tryz.isAgg239
 z53:=Tryz.sizeOf239
 v53:=Tryz.zeroValue239
 t171:=Tryz.underlying246
 a171:=Tryz.isAgg246
 z171:=Tryz.sizeOf246
 v171:=Tryz.zeroValue246
 t173:=Tryz.underlying249
 a173:=Tryz.isAgg249
 z173:=Tryz.sizeOf249
 v173:=Tryz.zeroValue249
 t212:=Tryz.underlying276
 a212:=Tryz.isAgg276
 z212:=Tryz.sizeOf276
 v212:=Tryz.zeroValue276
 t213:=Tryz.underlying278
 a213:=Tryz.isAgg278
 z213:=Tryz.sizeOf278
 t232:=Tryz.underlying305
 a232:=Tryz.isAgg305
 z232:=Tryz.sizeOf305
 v232:=Tryz.zeroValue305
 t233:=Tryz.underlying306
 a233:=Tryz.isAgg306
 z233:=Tryz.sizeOf306
 v233:=Tryz.zeroValue306
 g17:=by kernel_rfl
 g18:=by kernel_rfl
 g19:=by kernel_rfl
 i0:=by kernel_rfl
 i2:=by kernel_rfl
 i3:=by kernel_rfl
 i4:=by kernel_rfl
 i5:=by kernel_rfl
 i9:=by kernel_rfl
 i20:=by kernel_rfl
 i37:=by kernel_rfl
 i46:=by kernel_rfl
 i51:=by kernel_rfl
 i53:=by kernel_rfl
 i171:=by kernel_rfl
 i173:=by kernel_rfl
 i212:=by kernel_rfl
 i232:=by kernel_rfl
 i233:=by kernel_rfl
 m17:=by kernel_rfl
 m18:=by kernel_rfl
 m19:=by kernel_rfl }
open Go.RowKit Go.Sort Go.Lib in
theorem Tryz.strconv_FormatInt_10 (n:Int) (h0:-9223372036854775808≤n) (h1:n≤9223372036854775807) (w:World) (htab:Lib.TabIs Tryz.prog w "internal/strconv.uint64pow10" .u64 Lib.pow10Tab) :
    Calls Tryz.prog 105 #[.int .i64 n,.int .i64 10] w fun e w'=>e=.returned (.string ⟨(Lib.itoa n).toArray⟩)/\∃k os,w'=grow (w.drewN k) os:=Any.strconv_FormatInt_10 Tryz.laysM173 n h0 h1 w htab
def Tryz.laysM171_ren:Go.Shelf.Ren:=⟨fun|171=>86|243=>132|246=>146|283=>174|284=>175|285=>176|286=>177|129=>207|317=>206|318=>208|319=>209|320=>210|337=>239|338=>240|n=>n,fun|3=>3|9=>9|2=>2|4=>4|171=>246|0=>0|53=>239|37=>115|5=>5|173=>249|212=>276|51=>277|20=>20|213=>278|46=>279|232=>305|233=>306|n=>n,fun|17=>5|18=>11|19=>12|n=>n⟩
theorem Tryz.laysM171:Go.Proofs.LaysM.n171 Tryz.prog Tryz.laysM171_ren:={
 mixed:=by kernel_rfl
 f129:=Tryz.func207.trans (congrArg some (by kernel_rfl))
 f171:=Tryz.func86.trans (congrArg some (by kernel_rfl))
 f243:=Tryz.func132.trans (congrArg some (by kernel_rfl))
 f246:=Tryz.func146.trans (congrArg some (by kernel_rfl))
 f283:=Tryz.func174.trans (congrArg some (by kernel_rfl))
 f284:=Tryz.func175.trans (congrArg some (by kernel_rfl))
 f285:=Tryz.func176.trans (congrArg some (by kernel_rfl))
 f286:=Tryz.func177.trans (congrArg some (by kernel_rfl))
 f317:=Tryz.func206.trans (congrArg some (by kernel_rfl))
 f318:=Tryz.func208.trans (congrArg some (by kernel_rfl))
 f319:=Tryz.func209.trans (congrArg some (by kernel_rfl))
 f320:=Tryz.func210.trans (congrArg some (by kernel_rfl))
 f337:=Tryz.func239.trans (congrArg some (by kernel_rfl))
 f338:=Tryz.func240.trans (congrArg some (by kernel_rfl))
 t0:=Tryz.underlying0
 a0:=Tryz.isAgg0
 z0:=Tryz.sizeOf0
 v0:=Tryz.zeroValue0
 t2:=Tryz.underlying2
 a2:=Tryz.isAgg2
 z2:=Tryz.sizeOf2
 v2:=Tryz.zeroValue2
 t3:=Tryz.underlying3
 a3:=Tryz.isAgg3
 z3:=Tryz.sizeOf3
 v3:=Tryz.zeroValue3
 t4:=Tryz.underlying4
 a4:=Tryz.isAgg4
 z4:=Tryz.sizeOf4
 v4:=Tryz.zeroValue4
 t5:=Tryz.underlying5
 a5:=Tryz.isAgg5
 z5:=Tryz.sizeOf5
 v5:=Tryz.zeroValue5
 t9:=Tryz.underlying9
 a9:=Tryz.isAgg9
 z9:=Tryz.sizeOf9
 v9:=Tryz.zeroValue9
 t20:=Tryz.underlying20
 a20:=Tryz.isAgg20
 z20:=Tryz.sizeOf20
 v20:=Tryz.zeroValue20
 t37:=Tryz.underlying115
 a37:=Tryz.isAgg115
 z37:=Tryz.sizeOf115
 v37:=Tryz.zeroValue115
 t46:=Tryz.underlying279
 a46:=Tryz.isAgg279
 z46:=Tryz.sizeOf279
 v46:=Tryz.zeroValue279
 t51:=Tryz.underlying277
 a51:=Tryz.isAgg277
 z51:=Tryz.sizeOf277
 v51:=Tryz.zeroValue277
 t53:=Tryz.underlying239
 a53:=Tryz.isAgg239
 z53:=Tryz.sizeOf239
 v53:=Tryz.zeroValue239
 t171:=Tryz.underlying246
 a171:=Tryz.isAgg246
 z171:=Tryz.sizeOf246
 v171:=Tryz.zeroValue246
 t173:=Tryz.underlying249
 a173:=Tryz.isAgg249
 z173:=Tryz.sizeOf249
 v173:=Tryz.zeroValue249
 t212:=Tryz.underlying276
 a212:=Tryz.isAgg276
 z212:=Tryz.sizeOf276
 v212:=Tryz.zeroValue276
 t213:=Tryz.underlying278
 a213:=Tryz.isAgg278
 z213:=Tryz.sizeOf278
 t232:=Tryz.underlying305
 a232:=Tryz.isAgg305
 z232:=Tryz.sizeOf305
 v232:=Tryz.zeroValue305
 t233:=Tryz.underlying306
 a233:=Tryz.isAgg306
 z233:=Tryz.sizeOf306
 v233:=Tryz.zeroValue306
 g17:=by kernel_rfl
 g18:=by kernel_rfl
 g19:=by kernel_rfl
 i0:=by kernel_rfl
 i2:=by kernel_rfl
 i3:=by kernel_rfl
 i4:=by kernel_rfl
 i5:=by kernel_rfl
 i9:=by kernel_rfl
 i20:=by kernel_rfl
 i37:=by kernel_rfl
 i46:=by kernel_rfl
 i51:=by kernel_rfl
 i53:=by kernel_rfl
 i171:=by kernel_rfl
 i173:=by kernel_rfl
 i212:=by kernel_rfl
 i232:=by kernel_rfl
 i233:=by kernel_rfl
 m17:=by kernel_rfl
 m18:=by kernel_rfl
 m19:=by kernel_rfl }
open Go.RowKit Go.Sort Go.Lib in
theorem Tryz.strconv_Itoa (n:Int) (h0:-9223372036854775808≤n) (h1:n≤9223372036854775807) (w:World) (htab:Lib.TabIs Tryz.prog w "internal/strconv.uint64pow10" .u64 Lib.pow10Tab) :
    Calls Tryz.prog 86 #[.int .i64 n] w fun e w'=>e=.returned (.string ⟨(Lib.itoa n).toArray⟩)/\∃k os,w'=grow (w.drewN k) os:=Any.strconv_Itoa Tryz.laysM171 n h0 h1 w htab
end Go.Proofs
namespace Go.Proofs.YtpogmfliojcnjaaGreatDoor
section
open Go.RowKit Go.Lib Go.Sort Px
structure WEnv (wb:Nat) (w:World):Prop where
 tabs:Tabs w
 pow:Lib.TabIs Tryz.prog w "internal/strconv.uint64pow10" .u64 Lib.pow10Tab
 big:13≤wb
theorem gPow:Tryz.prog.globalNamed "internal/strconv.uint64pow10"=some 5:=by kernel_rfl
theorem pow_keep {w w':World}(h:Lib.TabIs Tryz.prog w "internal/strconv.uint64pow10" .u64 Lib.pow10Tab) (hk:w'.heap[5]?=w.heap[5]?):Lib.TabIs Tryz.prog w' "internal/strconv.uint64pow10" .u64 Lib.pow10Tab:=by
 rw[Lib.TabIs,World.var?,gPow,Option.bind_some] at h ⊢
 rw[hk];exact h
theorem WEnv.keep {wb:Nat}{w w':World}(h:WEnv wb w) (hk:∀b,b<wb->w'.heap[b]?=w.heap[b]?):WEnv wb w':=by
 have hb:=h.big
 exact ⟨h.tabs.keep (fun b hl=>hk b (by omega)),pow_keep h.pow (hk _ (by omega)),hb⟩
theorem WSt.env {wb:Nat}{w wk:World}{v0 vk:Value}{t:Str}{d:Nat}(S:WSt wb w v0 wk vk t d) (h:WEnv wb w):WEnv wb wk:=
 h.keep (fun b hb=>(S.keep b hb (by have:=S.wlt;omega)).2)
theorem formatInt {w:World}(n:Int) (h0:-9223372036854775808≤n/\n≤9223372036854775807) (hp:Lib.TabIs Tryz.prog w "internal/strconv.uint64pow10" .u64 Lib.pow10Tab) :
    Calls Tryz.prog 105 #[.int .i64 n,.int .i64 10] w fun e w'=>e=.returned (.string ⟨(Lib.itoa n).toArray⟩)/\Below w.heap.size w w':=by
 refine (Tryz.strconv_FormatInt_10 n h0.1 h0.2 w hp).mono ?_
 rintro e w' ⟨rfl,k,os,rfl⟩
 exact ⟨rfl,⟨rfl,rfl,rfl,by simp[grow,World.drewN],fun i hi=>by simp[grow,World.drewN,Array.getElem?_append_left hi]⟩⟩
theorem signBetween_any {c:Nat}{w:World}(h6:6≤c) (h16:c≤16) (ht:Tabs w):Calls Tryz.prog 213 #[.int .i64 c] w fun e w'=>e=.returned (.tuple #[.string ⟨(signT c).toArray⟩,.int .i64 ((line c-1:Nat):Int)])/\Below w.heap.size w w':=by
 have hc:c=6\/c=7\/c=8\/c=9\/c=10\/c=11\/c=12\/c=13\/c=14\/c=15\/c=16:=by omega
 rcases hc with rfl|rfl|rfl|rfl|rfl|rfl|rfl|rfl|rfl|rfl|rfl
 ·exact signBetween_6 w ht
 ·exact signBetween_7 w ht
 ·exact signBetween_8 w ht
 ·exact signBetween_9 w ht
 ·exact signBetween_10 w ht
 ·exact signBetween_11 w ht
 ·exact signBetween_12 w ht
 ·exact signBetween_13 w ht
 ·exact signBetween_14 w ht
 ·exact signBetween_15 w ht
 ·exact signBetween_16 w ht
theorem wrap_small {n:Nat}(h:n≤1000000):IntKind.i64.wrap ((n:Int)+1)=((n+1:Nat):Int):=by
 have:IntKind.i64.wrap ((n:Int)+1)=(n:Int)+1:=by simp[IntKind.wrap,IntKind.signed,IntKind.bits];omega
 rw[this];rfl
def ExprOk (e:E):Prop:=∀(wb:Nat) (w:World) (v p:Value) (t:Str) (d tight:Nat),WAt wb w v t d->IsE (· < wb) w e p->WEnv wb w->tight≤5->t.length+(exprT e (tight+1)).length≤140737488355328->
 Calls Tryz.prog 179 #[.pointer (some ⟨wb,0,none⟩),p,.int .i64 tight] w fun e' w'=>e'=.returned (.tuple #[])/\Wrote wb w v (t++exprT e (tight+1)) d w'
set_option maxRecDepth 100000 in
set_option maxHeartbeats 2000000 in
theorem expr_nil:ExprOk .nil:=by
 intro wb w v p t d tight hW hE _ _ _
 obtain rfl:p=.pointer none:=hE
 go_enter Tryz.func179,Tryz.ntmps179
 go_wp2_with fail
 refine bodyPost_ret (results_none rfl _ _ _) rfl ?_
 exact ⟨rfl,by rw[exprT,List.append_nil];exact Wrote.refl hW⟩
theorem expr_cells {wb:Nat}{w:World}{b o:Nat}{a:Nd}{l r:E}{p:Value}(h:IsE (· < wb) w (.node b o a l r) p):∃g lv rv,p=.pointer (some ⟨g,0,none⟩)/\g<wb/\w.heap[g]?=some (.cells #[.int .i64 a.code,.int .i64 a.num,sv a.name,lv,rv] 132 (0,0))/\IsE (· < wb) w l lv/\IsE (· < wb) w r rv:=h
set_option maxRecDepth 100000 in
set_option maxHeartbeats 2000000 in
theorem chain_any {l r:E}(hl:ExprOk l) (hr:ExprOk r) {wb g:Nat}{w:World}{v lv rv:Value}{x0 x1 x2:Value}{t s:Str}{d own m:Nat}(hm:Hid (m=own+1)) (br:Bool) (hW:WAt wb w v t d) (hg:g<wb) (hb:w.heap[g]?=some (.cells #[x0,x1,x2,lv,rv] 132 (0,0))) (h1:IsE (· < wb) w l lv) (h2:IsE (· < wb) w r rv) (hE:WEnv wb w) (ho:own≤4)
    (hlim:t.length+(brack br (exprT l m++[32]++s++[32]++exprT r (m+1))).length≤140737488355328) :
    Calls Tryz.prog 214 #[.pointer (some ⟨wb,0,none⟩),.pointer (some ⟨g,0,none⟩),.string ⟨s.toArray⟩,.int .i64 own,.bool br] w fun e' w'=>e'=.returned (.tuple #[])/\Wrote wb w v (t++brack br (exprT l m++[32]++s++[32]++exprT r (m+1))) d w':=by
 have HL:Hid _:=hlim
 have HW:Hid (ExprOk l/\ExprOk r):=⟨hl,hr⟩
 have HX:∀(w:World) (v:Value) (t:Str),WAt wb w v t d->IsE (· < wb) w l lv->WEnv wb w->t.length+(exprT l m).length≤140737488355328->Calls Tryz.prog 179 #[.pointer (some ⟨wb,0,none⟩),lv,.int .i64 own] w fun e' w'=>e'=.returned (.tuple #[])/\Wrote wb w v (t++exprT l m) d w':=fun w v t h1 h2 h3 h4=>by
  rw[hm.out] at h4 ⊢;exact hl wb w v lv t d own h1 h2 h3 (by omega) h4
 have HX':Hid _:=HX
 clear HX
 have S0:=WSt.start hW
 have lx:=S0.wlt
 have hgv:v.ownBlock≠some g:=fun e=>by have:=(S0.low g e).1;omega
 have hgw:g≠wb:=by omega
 clear hlim hl hr
 have hwrap:IntKind.i64.wrap ((own:Int)+1)=(m:Int):=by rw[hm.out];exact wrap_small (by omega)
 have HO:Hid (m≤5):=by rw[Hid,hm.out];omega
 cases br with
 | false=>
  have HL':Hid (t.length+(exprT l m).length≤140737488355328/\t.length+(exprT l m).length+(1+(s.length+1))≤140737488355328/\t.length+(exprT l m).length+(1+(s.length+1))+(exprT r (m+1)).length≤140737488355328):=by
   have:=HL.out
   simp[brack] at this
   refine ⟨?_,?_,?_⟩<;>omega
  obtain ⟨c3,-⟩:=cel hb 3 _ rfl
  go_enter Tryz.func214,Tryz.ntmps214
  go_wp2_with (first
   | (go_at_call_of 179 lv;refine (HX'.out _ v t hW h1 hE HL'.out.1).mono ?_;rintro _ w1 ⟨rfl,hw1⟩;obtain ⟨v1,S1⟩:=S0.step hw1)
   | (go_at_call 56;refine (say3 S1.at_ [32] s [32] (by have:=HL'.out.2.1;simp;omega)).mono ?_;rintro _ w2 ⟨rfl,hw2⟩;obtain ⟨v2,S2⟩:=S1.step hw2;obtain ⟨c4,-⟩:=cel (S2.blk hb hgw hgv) 4 _ rfl)
   | (go_at_call_of 179 rv;refine (HW.out.2 wb _ v2 rv _ d m S2.at_ (h2.carry S2.keep) (S2.env hE) HO.out (by have:=HL'.out.2.2;simp;omega)).mono ?_;rintro _ w3 ⟨rfl,hw3⟩;obtain ⟨v3,S3⟩:=S2.step hw3))
  go_end0
  exact ⟨rfl,by have:=S3.out;simpa [brack,List.append_assoc] using this⟩
 | true=>
  have HL':Hid (t.length+1≤140737488355328/\t.length+1+(exprT l m).length≤140737488355328/\t.length+1+(exprT l m).length+(1+(s.length+1))≤140737488355328/\t.length+1+(exprT l m).length+(1+(s.length+1))+(exprT r (m+1)).length≤140737488355328/\t.length+1+(exprT l m).length+(1+(s.length+1))+(exprT r (m+1)).length+1≤140737488355328):=by
   have:=HL.out
   simp[brack] at this
   refine ⟨?_,?_,?_,?_,?_⟩<;>omega
  have T1:Hid True:=trivial
  go_enter Tryz.func214,Tryz.ntmps214
  go_wp2_with (first
   | (go_at_call 56;clear T1;refine (say1 hW [40] HL'.out.1).mono ?_;rintro _ w0 ⟨rfl,hw0⟩;obtain ⟨v0,S01⟩:=S0.step hw0;obtain ⟨c3,-⟩:=cel (S01.blk hb hgw hgv) 3 _ rfl;have T2:Hid True:=trivial)
   | (go_at_call_of 179 lv;refine (HX'.out _ v0 _ S01.at_ (h1.carry S01.keep) (S01.env hE) (by have:=HL'.out.2.1;simp;omega)).mono ?_;rintro _ w1 ⟨rfl,hw1⟩;obtain ⟨v1,S1⟩:=S01.step hw1)
   | (go_at_call 56;clear T2;refine (say3 S1.at_ [32] s [32] (by have:=HL'.out.2.2.1;simp;omega)).mono ?_;rintro _ w2 ⟨rfl,hw2⟩;obtain ⟨v2,S2⟩:=S1.step hw2;obtain ⟨c4,-⟩:=cel (S2.blk hb hgw hgv) 4 _ rfl)
   | (go_at_call_of 179 rv;refine (HW.out.2 wb _ v2 rv _ d m S2.at_ (h2.carry S2.keep) (S2.env hE) HO.out (by have:=HL'.out.2.2.2.1;simp;omega)).mono ?_;rintro _ w3 ⟨rfl,hw3⟩;obtain ⟨v3,S3⟩:=S2.step hw3)
   | (go_at_call 56;refine (say1 S3.at_ [41] (by have:=HL'.out.2.2.2.2;simp;omega)).mono ?_;rintro _ w4 ⟨rfl,hw4⟩;obtain ⟨v4,S4⟩:=S3.step hw4))
  go_end0
  exact ⟨rfl,by have:=S4.out;simpa [brack,List.append_assoc] using this⟩
end
section
open Go.RowKit Go.Lib Go.Sort Px
section
variable {wb g:Nat}{w:World}{v lv rv:Value}{t:Str}{d tight:Nat}{a:Nd}{l r:E}{b o:Nat}
set_option maxRecDepth 100000 in
set_option maxHeartbeats 2000000 in
theorem expr_num (hc:a.code=1) (hn:-9223372036854775808≤a.num/\a.num≤9223372036854775807) (hW:WAt wb w v t d) (hb:w.heap[g]?=some (.cells #[.int .i64 a.code,.int .i64 a.num,sv a.name,lv,rv] 132 (0,0))) (hE:WEnv wb w) (hlim:t.length+(exprT (.node b o a l r) (tight+1)).length≤140737488355328) :
    Calls Tryz.prog 179 #[.pointer (some ⟨wb,0,none⟩),.pointer (some ⟨g,0,none⟩),.int .i64 tight] w fun e' w'=>e'=.returned (.tuple #[])/\Wrote wb w v (t++exprT (.node b o a l r) (tight+1)) d w':=by
 have S0:=WSt.start hW
 have HT:Hid (exprT (.node b o a l r) (tight+1)=itoa a.num):=by rw[Hid,exprT,if_pos hc]
 rw[HT.out] at hlim ⊢
 have HL:Hid _:=hlim
 rw[hc] at hb
 clear hlim hc
 obtain ⟨c0,-⟩:=cel hb 0 _ rfl
 obtain ⟨c1,-⟩:=cel hb 1 _ rfl
 go_enter Tryz.func179,Tryz.ntmps179
 go_wp2_with (first
  | (go_at_call 105;refine (formatInt a.num hn hE.pow).mono ?_;rintro _ w1 ⟨rfl,hb1⟩;have S1:=S0.below hb1)
  | (go_at_call 56;refine (say1 S1.at_ (itoa a.num) HL.out).mono ?_;rintro _ w2 ⟨rfl,hw2⟩;obtain ⟨v2,S2⟩:=S1.step hw2))
 refine bodyPost_ret (results_none rfl _ _ _) rfl ?_
 exact ⟨rfl,S2.out⟩
set_option maxRecDepth 100000 in
set_option maxHeartbeats 2000000 in
theorem expr_var (hc:a.code=2) (hW:WAt wb w v t d) (hb:w.heap[g]?=some (.cells #[.int .i64 a.code,.int .i64 a.num,sv a.name,lv,rv] 132 (0,0))) (hlim:t.length+(exprT (.node b o a l r) (tight+1)).length≤140737488355328) :
    Calls Tryz.prog 179 #[.pointer (some ⟨wb,0,none⟩),.pointer (some ⟨g,0,none⟩),.int .i64 tight] w fun e' w'=>e'=.returned (.tuple #[])/\Wrote wb w v (t++exprT (.node b o a l r) (tight+1)) d w':=by
 have HT:Hid (exprT (.node b o a l r) (tight+1)=a.name):=by rw[Hid,exprT,if_neg (by omega),if_pos hc]
 rw[HT.out] at hlim ⊢
 have HL:Hid _:=hlim
 rw[hc] at hb
 clear hlim hc
 obtain ⟨c0,-⟩:=cel hb 0 _ rfl
 obtain ⟨c2,-⟩:=cel hb 2 _ rfl
 rw[sv] at c2
 go_enter Tryz.func179,Tryz.ntmps179
 go_wp2_with (go_at_call 56;refine (say1 hW a.name HL.out).mono ?_;rintro _ w2 ⟨rfl,hw2⟩)
 refine bodyPost_ret (results_none rfl _ _ _) rfl ?_
 exact ⟨rfl,hw2⟩
set_option maxRecDepth 100000 in
set_option maxHeartbeats 2000000 in
theorem expr_pre (hc:a.code=3) (hW:WAt wb w v t d) (hb:w.heap[g]?=some (.cells #[.int .i64 a.code,.int .i64 a.num,sv a.name,lv,rv] 132 (0,0))) (hlim:t.length+(exprT (.node b o a l r) (tight+1)).length≤140737488355328) :
    Calls Tryz.prog 179 #[.pointer (some ⟨wb,0,none⟩),.pointer (some ⟨g,0,none⟩),.int .i64 tight] w fun e' w'=>e'=.returned (.tuple #[])/\Wrote wb w v (t++exprT (.node b o a l r) (tight+1)) d w':=by
 have HT:Hid (exprT (.node b o a l r) (tight+1)=[112,114,101,40]++(a.name++[41])):=by rw[Hid,exprT,if_neg (by omega),if_neg (by omega),if_pos hc,List.append_assoc]
 rw[HT.out] at hlim ⊢
 have HL:Hid _:=hlim
 rw[hc] at hb
 clear hlim hc
 obtain ⟨c0,-⟩:=cel hb 0 _ rfl
 obtain ⟨c2,-⟩:=cel hb 2 _ rfl
 rw[sv] at c2
 go_enter Tryz.func179,Tryz.ntmps179
 go_wp2_with (go_at_call 56;refine (say3 hW [112,114,101,40] a.name [41] (by have:=HL.out;simp at this ⊢;omega)).mono ?_;rintro _ w2 ⟨rfl,hw2⟩)
 refine bodyPost_ret (results_none rfl _ _ _) rfl ?_
 exact ⟨rfl,hw2⟩
set_option maxRecDepth 100000 in
set_option maxHeartbeats 2000000 in
theorem expr_ahead (hl:ExprOk l) (s:Str) (hs:s=[45]/\a.code=4\/s=[33]/\a.code=5) (hW:WAt wb w v t d) (hg:g<wb) (hb:w.heap[g]?=some (.cells #[.int .i64 a.code,.int .i64 a.num,sv a.name,lv,rv] 132 (0,0))) (h1:IsE (· < wb) w l lv) (hE:WEnv wb w) (hlim:t.length+(exprT (.node b o a l r) (tight+1)).length≤140737488355328) :
    Calls Tryz.prog 179 #[.pointer (some ⟨wb,0,none⟩),.pointer (some ⟨g,0,none⟩),.int .i64 tight] w fun e' w'=>e'=.returned (.tuple #[])/\Wrote wb w v (t++exprT (.node b o a l r) (tight+1)) d w':=by
 have S0:=WSt.start hW
 have hgv:v.ownBlock≠some g:=fun e=>by have:=(S0.low g e).1;omega
 have hgw:g≠wb:=by omega
 have HT:Hid (exprT (.node b o a l r) (tight+1)=s++exprT l 6):=by
  rcases hs with ⟨rfl,hc⟩|⟨rfl,hc⟩
  ·rw[Hid,exprT,if_neg (by omega),if_neg (by omega),if_neg (by omega),if_pos (.inl hc),hc];rfl
  ·rw[Hid,exprT,if_neg (by omega),if_neg (by omega),if_neg (by omega),if_pos (.inr hc),hc];rfl
 rw[HT.out] at hlim ⊢
 have HL:Hid _:=hlim
 clear hlim
 have HO:Hid (ExprOk l):=hl
 rcases hs with ⟨rfl,hc⟩|⟨rfl,hc⟩
 all_goals
  rw[hc] at hb
  have hA:∀W,Tabs W->Calls Tryz.prog 212 #[.int .i64 (_:Nat)] W _:=fun W hT=>signAhead_any a.code W hT
  rw[hc] at hA
  clear hc hl
  obtain ⟨c0,-⟩:=cel hb 0 _ rfl
  have hTb:=hE.tabs
  go_enter Tryz.func179,Tryz.ntmps179
  go_wp2_with (first
   | (go_at_call 212;refine (hA _ hTb).mono ?_;rintro _ w1 ⟨rfl,hb1⟩;have S1:=S0.below hb1;simp only[aheadT,↓reduceIte,Nat.reduceEqDiff])
   | (go_at_call 56;refine (say1 S1.at_ _ (by have:=HL.out;simp at this ⊢;omega)).mono ?_;rintro _ w2 ⟨rfl,hw2⟩;obtain ⟨v2,S2⟩:=S1.step hw2;obtain ⟨c3,-⟩:=cel (S2.blk hb hgw hgv) 3 _ rfl)
   | (go_at_call 179;refine (HO.out wb _ v2 lv _ d 5 S2.at_ (h1.carry S2.keep) (S2.env hE) (by omega) (by have:=HL.out;simp at this ⊢;omega)).mono ?_;rintro _ w3 ⟨rfl,hw3⟩;obtain ⟨v3,S3⟩:=S2.step hw3))
  refine bodyPost_ret (results_none rfl _ _ _) rfl ?_
  exact ⟨rfl,by have:=S3.out;simpa [List.append_assoc] using this⟩
end
end
section
open Go.RowKit Go.Lib Go.Sort Px
theorem Px.signT_ne (c:Nat):signT c≠[]:=by unfold signT;(repeat' split)<;>simp
theorem Px.line_pos (c:Nat):1≤line c:=by unfold line;(repeat' split)<;>omega
theorem Px.line_two {c:Nat}(h6:6≤c) (h16:c≤16):line c≤5:=by unfold line;(repeat' split)<;>omega
set_option maxRecDepth 100000 in
set_option maxHeartbeats 2000000 in
theorem expr_two {wb g:Nat}{w:World}{v lv rv:Value}{t:Str}{d tight:Nat}{a:Nd}{l r:E}{b o:Nat}(hl:ExprOk l) (hr:ExprOk r) (h6:6≤a.code) (h16:a.code≤16) (hW:WAt wb w v t d) (hg:g<wb) (hb:w.heap[g]?=some (.cells #[.int .i64 a.code,.int .i64 a.num,sv a.name,lv,rv] 132 (0,0))) (h1:IsE (· < wb) w l lv) (h2:IsE (· < wb) w r rv) (hE:WEnv wb w) (hlim:t.length+(exprT (.node b o a l r) (tight+1)).length≤140737488355328) :
    Calls Tryz.prog 179 #[.pointer (some ⟨wb,0,none⟩),.pointer (some ⟨g,0,none⟩),.int .i64 tight] w fun e' w'=>e'=.returned (.tuple #[])/\Wrote wb w v (t++exprT (.node b o a l r) (tight+1)) d w':=by
 have S0:=WSt.start hW
 have hgv:v.ownBlock≠some g:=fun e=>by have:=(S0.low g e).1;omega
 have hgw:g≠wb:=by omega
 obtain ⟨c,hc⟩:∃c,Hid (c=a.code):=⟨_,rfl⟩
 obtain ⟨own,hown⟩:∃own,Hid (own=line c-1):=⟨_,rfl⟩
 obtain ⟨m,hm⟩:∃m,Hid (m=own+1):=⟨_,rfl⟩
 obtain ⟨s,hs⟩:∃s,Hid (s=signT c):=⟨_,rfl⟩
 have hml:Hid (m=line c):=by have:=line_pos c;have:=hown.out;have:=hm.out;rw[Hid];omega
 have ho4:own≤4:=by have:=line_two (c:=c) (by rw[hc.out];exact h6) (by rw[hc.out];exact h16);have:=hown.out;omega
 have HT:Hid (exprT (.node b o a l r) (tight+1)=brack (decide (own<tight)) (exprT l m++[32]++s++[32]++exprT r (m+1))):=by
  rw[Hid,exprT,if_neg (by omega),if_neg (by omega),if_neg (by omega),if_neg (by omega),hml.out,hs.out,hc.out]
  have e:decide (line a.code<tight+1)=decide (own<tight):=by
   have:=hm.out;have e1:=hml.out;rw[hc.out] at e1
   exact decide_eq_decide.2 (by omega)
  rw[e]
 rw[HT.out] at hlim ⊢
 have HL:Hid _:=hlim
 rw[<-hc.out] at hb h6 h16
 clear hlim
 have HO:Hid (ExprOk l/\ExprOk r):=⟨hl,hr⟩
 have hA:∀W,Tabs W->Calls Tryz.prog 212 #[.int .i64 c] W fun e w'=>e=.returned (.string ⟨#[]⟩)/\Below W.heap.size W w':=fun W hT=>by
  have:=signAhead_any c W hT
  rw[aheadT,if_neg (by omega),if_neg (by omega)] at this
  exact this
 have hB:∀W,Tabs W->Calls Tryz.prog 213 #[.int .i64 c] W fun e w'=>e=.returned (.tuple #[.string ⟨s.toArray⟩,.int .i64 own])/\Below W.heap.size W w':=fun W hT=>by
  rw[hs.out,hown.out];exact signBetween_any h6 h16 hT
 have hne:List.isEmpty s=false:=by rw[hs.out,List.isEmpty_eq_false_iff];exact signT_ne c
 have n1:¬(c:Int)=1:=by omega
 have n2:¬(c:Int)=2:=by omega
 have n3:¬(c:Int)=3:=by omega
 have hlx:=S0.wlt
 have hgl:g<w.heap.size:=by omega
 clear hl hr h6 h16 hs
 obtain ⟨c0,-⟩:=cel hb 0 _ rfl
 go_enter Tryz.func179,Tryz.ntmps179
 go_wp2_with (first
  | (go_at_call 212;refine (hA _ hE.tabs).mono ?_;rintro _ w1 ⟨rfl,hb1⟩;have S1:=S0.below hb1;obtain ⟨c1,-⟩:=cel (S1.blk hb hgw hgv) 0 _ rfl)
  | (go_at_call 213;refine (hB _ (S1.env hE).tabs).mono ?_;rintro _ w2 ⟨rfl,hb2⟩;have S2:=S1.below hb2)
  | (go_at_call 214;refine (chain_any HO.out.1 HO.out.2 hm _ S2.at_ hg (S2.blk hb hgw hgv) (h1.carry S2.keep) (h2.carry S2.keep) (S2.env hE) ho4 HL.out).mono ?_;rintro _ w3 ⟨rfl,hw3⟩;obtain ⟨v3,S3⟩:=S2.step hw3))
 go_end0
 exact ⟨rfl,S3.out⟩
theorem expr_ok:∀(e:E),GoodE e->ExprOk e:=by
 intro e
 induction e with
 | nil=>intro _;exact expr_nil
 | node b o a l r ihl ihr=>
  intro ⟨g1,g2,g3,g4,g5⟩ wb w v p t d tight hW hI hE ht hlim
  obtain ⟨g,lv,rv,rfl,hg,hb,h1,h2⟩:=expr_cells hI
  have hc:a.code=1\/a.code=2\/a.code=3\/a.code=4\/a.code=5\/6≤a.code:=by omega
  rcases hc with hc|hc|hc|hc|hc|hc
  ·exact expr_num hc g3 hW hb hE hlim
  ·exact expr_var hc hW hb hlim
  ·exact expr_pre hc hW hb hlim
  ·exact expr_ahead (ihl g4) [45] (.inl ⟨rfl,hc⟩) hW hg hb h1 hE hlim
  ·exact expr_ahead (ihl g4) [33] (.inr ⟨rfl,hc⟩) hW hg hb h1 hE hlim
  ·exact expr_two (ihl g4) (ihr g5) hc g2 hW hg hb h1 h2 hE hlim
theorem expr_top {e:E}(he:GoodE e) {wb:Nat}{w:World}{v p:Value}{t:Str}{d:Nat}(hW:WAt wb w v t d) (hI:IsE (· < wb) w e p) (hE:WEnv wb w) (hlim:t.length+(exprT e 0).length≤140737488355328) :
    Calls Tryz.prog 179 #[.pointer (some ⟨wb,0,none⟩),p,.int .i64 0] w fun e' w'=>e'=.returned (.tuple #[])/\Wrote wb w v (t++exprT e 0) d w':=by
 have:=expr_ok e he wb w v p t d 0 hW hI hE (by omega)
 rw[exprT_zero] at this
 exact this hlim
end
section
open Go.RowKit Go.Sort Px
end
section
open Go.RowKit Go.Sort Px
theorem Row.read {A:Nat->Prop}{w:World}{e size n:Nat}{v:Value}{xs:List Value}(h:Row A w e size v n xs) :
    ∃ao cap,v=.slice ao n cap/\n≤cap/\cap≤maxLen/\(0<n->∃g,ao=some ⟨g,0,none⟩/\A g/\g<w.heap.size/\∀(j:Nat) (u:Value),xs[j]?=some u->w.cell? ⟨g,j,none⟩=some u):=by
 have hc:=fun g hg=>World.ownsRow.cells h.1 (g:=g) hg
 have hl:=fun g hg=>World.ownsRow.lt h.1 g hg
 have hA:=h.2
 rcases h.1.2 with ⟨rfl,rfl⟩|⟨g,cap,cur,rfl,_,_,h2,h3,_⟩
 ·exact ⟨none,0,rfl,Nat.le_refl _,Nat.zero_le _,fun h=>absurd h (Nat.lt_irrefl _)⟩
 ·refine ⟨_,cap,rfl,h2,h3,fun _=>⟨g,rfl,hA g rfl,(hl g rfl).2,fun j u hj=>?_⟩⟩
  have h1:=hc g rfl j u hj
  have ad:(⟨g,0,none⟩:Addr).add j=⟨g,j,none⟩:=by unfold Addr.add;split<;>simp_all
  rw[ad] at h1
  exact h1
theorem Row.recs {α:Type}{R:α->List Value->Prop}{A:Nat->Prop}{w:World}{e k:Nat}{v:Value}{l:List α}{xs:List Value}(hk:∀a c,R a c->c.length=k) (hr:Row A w e k v l.length xs) (hs:Rows R l xs) :
    (l=[]/\∃ao cap,v=.slice ao 0 cap)\/∃g cap,v=.slice (some ⟨g,0,none⟩) l.length cap/\0<l.length/\l.length≤maxLen/\g<w.heap.size/\A g/\∀(i:Nat) (a:α),l[i]?=some a->∃c,R a c/\∀(j:Nat) (u:Value),c[j]?=some u->w.cell? ⟨g,i*k+j,none⟩=some u:=by
 obtain ⟨ao,cap,rfl,h1,h2,h3⟩:=hr.read
 cases l with
 | nil=>exact .inl ⟨rfl,ao,cap,rfl⟩
 | cons x r=>
  obtain ⟨g,rfl,hA,hg,hc⟩:=h3 (by simp)
  refine .inr ⟨g,cap,rfl,by simp,by omega,hg,hA,fun i a hi=>?_⟩
  obtain ⟨c,hc',hx⟩:=Rows.get hk hs i a hi
  exact ⟨c,hc',fun j u hj=>hc _ _ (hx j u hj)⟩
theorem IsSets.read {A:Nat->Prop}{w:World}{l:List Asg}{v:Value}(h:IsSets A w l v) :
    (l=[]/\∃ao cap,v=.slice ao 0 cap)\/∃g cap,v=.slice (some ⟨g,0,none⟩) l.length cap/\0<l.length/\l.length≤maxLen/\g<w.heap.size/\A g/\∀(i:Nat) (a:Asg),l[i]?=some a->∃p,w.cell? ⟨g,i*2,none⟩=some (sv a.name)/\w.cell? ⟨g,i*2+1,none⟩=some p/\IsE A w a.e p:=by
 obtain ⟨xs,hr,hs⟩:=h
 rcases Row.recs (k:=2) (fun a c ⟨p,hc,_⟩=>by rw[hc];rfl) hr hs with h|⟨g,cap,h1,h2,h3,h4,h5,h6⟩
 ·exact .inl h
 ·refine .inr ⟨g,cap,h1,h2,h3,h4,h5,fun i a hi=>?_⟩
  obtain ⟨c,⟨p,rfl,hp⟩,hx⟩:=h6 i a hi
  exact ⟨p,hx 0 _ rfl,hx 1 _ rfl,hp⟩
end
end Go.Proofs.YtpogmfliojcnjaaGreatDoor
