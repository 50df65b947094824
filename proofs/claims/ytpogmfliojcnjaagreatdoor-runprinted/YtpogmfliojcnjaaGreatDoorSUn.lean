import Derived.Test.YtpogmfliojcnjaaGreatDoorSUh
import Derived.Test.YtpogmfliojcnjaaGreatDoorSPsets
import Derived.Deep.AppendLies
import Derived.Test.YtpogmfliojcnjaaGreatDoorSUe
namespace Go.Proofs.YtpogmfliojcnjaaGreatDoor
section
open Go.RowKit Px
theorem Tryz.uInfo64:(Tryz.prog.info? 2).map (fun i=>(i.zero,i.size,i.bytes))=some (some (.int .i64 0),1,8):=by kernel_rfl
def Row64 (B:Nat) (w:World) (v:Value) (zs:List Int):Prop:=w.ownsRow B 2 1 v zs.length (zs.map (Value.int .i64))
theorem Row64.nums {B:Nat}{w:World}{v:Value}{zs:List Int}(h:Row64 B w v zs):INums w v zs:=by
 have hc:=fun g hg=>World.ownsRow.cells h (g:=g) hg
 obtain ⟨hl,h2⟩:=h
 rcases h2 with ⟨rfl,h0⟩|⟨g,cap,cur,rfl,hB,hg,h3,h4,hr⟩
 ·exact ⟨none,0,0,0,by rw[h0],by omega,by unfold maxLen;omega,fun h=>absurd h (by omega),fun k hk=>absurd hk (by omega)⟩
 ·refine ⟨some ⟨g,0,none⟩,g,0,cap,rfl,by omega,by omega,fun _=>rfl,fun k hk=>?_⟩
  have:=hc g rfl k (.int .i64 (zs.getD k 0)) (by simp[List.getElem?_eq_getElem hk,List.getD_eq_getElem?_getD])
  have ad:(⟨g,0,none⟩:Addr).add k=⟨g,k,none⟩:=by unfold Addr.add;split<;>simp_all
  rw[ad] at this
  rw[Nat.zero_add]
  exact this
theorem Row64.below {B:Nat}{w w':World}{v:Value}{zs:List Int}(h:Row64 B w v zs) (hb:Below w.heap.size w w'):Row64 B w' v zs:=
 own_keep (A:=fun _=>True) (A':=fun _=>True) h (fun _ _=>trivial) fun b _ hlt=>⟨trivial,hb.block b hlt⟩
theorem app64 (B:Nat) (w:World) (v:Value) (zs:List Int) (x:Int) (q:Nat) (h:Row64 B w v zs) (hq:w.cell? ⟨q,0,none⟩=some (.int .i64 x)) (hB:B≤w.heap.size) (hl:zs.length≤1000000) :
    ∃g cap w',(Builtin.append_ #[41,41] 41 #[v,.slice (some ⟨q,0,none⟩) 1 1]).run Tryz.prog w=.ok (.slice (some ⟨g,0,none⟩) (zs.length+1) cap) w'/\Row64 B w' (.slice (some ⟨g,0,none⟩) (zs.length+1) cap) (zs++[x])/\w.grownBy w' v.ownBlock:=by
 obtain ⟨i0,hi,hz0,hz1,hz2⟩:=info_parts Tryz.uInfo64
 obtain ⟨g,cap,w',hr,h2,h3,h4,h5⟩:=run_append_lies (P:=Tryz.prog) w 41 41 B 2 i0 (.int .i64 0) 1 8 Tryz.underlying41 hi hz0 hz1 hz2 rfl (by decide) v zs.length _ h ⟨q,0,none⟩ 1 1 [.int .i64 x] (by simp)
  (fun j u hu=>by
   cases j with
   | zero=>simp at hu;subst hu;simpa [Addr.add] using hq
   | succ j=>simp at hu)
  (fun u hu=>by obtain rfl:=List.mem_singleton.1 hu;rfl) (by omega) (by unfold maxLen;omega) (by omega) hB _ rfl
 refine ⟨g,cap,w',hr,?_,h3⟩
 unfold Row64
 rw[List.length_append,List.map_append];exact h2
theorem step_app_u {P:Program}{w w':World}{ops:Array Oper}{o:Oper}{a:Act}{K:Act->World->Prop}{Q:Exit->Act->World->Prop}{E:Prop}(hgd:o.guard=none) (s x:Operand) (t:TypeId)
    (ho:o.op=.call { callee:=.builtin .append,args:=#[s,x],argTypes:=#[t,t] }) (vs vx r:Value) (hs:a.eval s=vs) (hx:a.eval x=vx) (hr:(Builtin.append_ #[t,t] o.type #[vs,vx]).run P w=.ok r w') (h:K (a.put o.dst r) w') :
    if Region.wanted o (yielded ops a.tmps)=true then Oper.wp P o a w K Q else E:=by
 have hw:Region.wanted o (yielded ops a.tmps)=true:=by simp[Region.wanted,hgd]
 rw[if_pos hw]
 unfold Oper.wp execOp
 simp only[ho,resolve,invoke,builtin,Sem.run_bind,Sem.run_pure,Result.andThen_ok,List.map_toArray,List.map_cons,List.map_nil,hs,hx,hr]
 exact h
theorem tellC_take {p:Nat->Bool}{vs:List Decl}{k:Nat}{v:Decl}(h:vs[k]?=some v) (n:Px.Env):tellC p (vs.take (k+1)) n=if p v.kind then tellC p (vs.take k) n++[n v.name] else tellC p (vs.take k) n:=by
 unfold tellC
 rw[List.take_add_one,h,List.filter_append,List.map_append]
 split
 ·rename_i hp;simp[hp]
 ·rename_i hp;simp[hp]
theorem tellC_len (p:Nat->Bool) (vs:List Decl) (n:Px.Env):(tellC p vs n).length≤vs.length:=by
 unfold tellC
 rw[List.length_map]
 exact List.length_filter_le _ _
theorem kindO_any (kd:Int) (w:World):Calls Tryz.prog 41 #[.int .i64 kd] w fun e w'=>e=.returned (.bool (kd==2))/\w'=w:=by
 go_enter Tryz.func41,Tryz.ntmps41
 go_wp2_with fail
 go_ret
 exact ⟨rfl,rfl⟩
section
variable {A:Nat->Prop}{w w':World}{rb bn bw m:Nat}{now was:Px.Env}{vs:List Decl}
set_option maxRecDepth 100000 in
set_option maxHeartbeats 8000000 in
theorem tellO_any {vv:Value}(c0:w.cell? ⟨rb,0,none⟩=some vv) (hvv:IsVars A w vs vv) (hnm:∀v∈vs,v.name.length≤maxLen) (hvl:vs.length≤1000000) (h:RunV w rb bn bw m (vnames vs) now was) :
    Calls Tryz.prog 40 #[.pointer (some ⟨rb,0,none⟩),.func (.func 41) #[] #[]] w fun e w'=>∃v,e=.returned v/\Hid (Row64 w.heap.size w' v (tellC (fun k=>decide (k=2)) vs now)/\Below w.heap.size w w'):=by
 obtain ⟨ad,g,cap,rfl,hmx,hg,hcs⟩:=hvv.open2
 obtain ⟨N,hN⟩:∃N,N=vs.length:=⟨_,rfl⟩
 rw[<-hN] at c0 hmx hg hvl
 have HN:Hid (N=vs.length):=hN
 have HG:Hid (0<N->ad=some ⟨g,0,none⟩/\A g/\g<w.heap.size):=hg
 have HCS:Hid (∀(i:Nat) (a:Decl),vs[i]?=some a->w.cell? ⟨g,i*3,none⟩=some (.int .i64 (a.kind:Int))/\w.cell? ⟨g,i*3+1,none⟩=some (sv a.name)/\w.cell? ⟨g,i*3+2,none⟩=some (.int .i64 a.first)):=hcs
 have HV:Hid (RunV w rb bn bw m (vnames vs) now was/\∀v∈vs,v.name.length≤maxLen):=⟨h,hnm⟩
 clear hvv hnm h hN hmx hg hcs
 go_enter Tryz.func40,Tryz.ntmps40
 go_wp2_with fail
 clear c0
 go_loopg [5,13] N (fun f lv i wr=>∃k:Nat,f=N-k/\k≤N/\i=.int .i64 (k:Int)/\Hid (Row64 w.heap.size wr lv (tellC (fun k=>decide (k=2)) (vs.take k) now)/\Below w.heap.size w wr))
 case atStart=>exact ⟨0,by omega,by omega,rfl,World.ownsRow_nil _ _ _ _,Below.refl _ _⟩
 case round=>
  obtain ⟨k,rfl,hk,rfl,hr⟩:=hrel
  obtain ⟨hr1,hr2⟩:=hr.out
  obtain ⟨al,cl,e⟩:=owns_shape hr1
  subst e
  obtain ⟨zs,hzs⟩:∃zs,zs=tellC (fun k=>decide (k=2)) (vs.take k) now:=⟨_,rfl⟩
  rw[<-hzs] at hr1 ⊢
  have hzl:zs.length≤1000000:=by rw[hzs];have:=tellC_len (fun k=>decide (k=2)) (vs.take k) now;rw[List.length_take] at this;omega
  by_cases hlt:k<N
  ·obtain ⟨v,hv⟩:∃v,vs[k]?=some v:=⟨vs[k]'(by rw[<-HN.out];exact hlt),by rw[List.getElem?_eq_getElem]⟩
   obtain ⟨c0,c1,c2⟩:=HCS.out k v hv
   obtain ⟨hg1,hg2,hg3⟩:=HG.out (by omega)
   have hix:=ixV ad g N cap k hlt (fun _=>hg1)
   have c0:=ck_cell hr2 c0
   have c1:=ck_cell hr2 c1
   have c2:=ck_cell hr2 c2
   obtain ⟨S,hS⟩:∃S,Value.string S=sv v.name:=⟨_,rfl⟩
   rw[<-hS] at c1
   obtain ⟨kd,hkd⟩:∃kd:Int,kd=(v.kind:Int):=⟨_,rfl⟩
   rw[<-hkd] at c0
   obtain ⟨fi,hfi⟩:∃fi:Int,fi=v.first:=⟨_,rfl⟩
   rw[<-hfi] at c2
   obtain ⟨X,hX⟩:∃X,X=wr.alloc (.cells #[.int .i64 kd,.string S,.int .i64 fi] 33):=⟨_,rfl⟩
   obtain ⟨q,hq⟩:∃q,q=wr.heap.size:=⟨_,rfl⟩
   have hbx:Below wr.heap.size wr X:=by rw[hX];exact ck_grown _ _
   have hkx:X.heap[q]?=some (.cells #[.int .i64 kd,.string S,.int .i64 fi] 33 (0,0)):=by rw[hX,hq];exact ck_new _ _
   have hbw:Below w.heap.size w X:=ck_all hr2 hbx
   have z0:=cell_row hkx 0 (u:=.int .i64 kd) rfl
   have hask:=kindO_any kd X
   have htk:=tellC_take (p:=(fun k=>decide (k=2))) hv now
   rw[<-hzs] at htk
   by_cases h2:v.kind=2
   ·rw[if_pos (by simpa using h2)] at htk
    have hk2:(kd==2)=true:=by rw[hkd];simp;omega
    rw[hk2] at hask
    clear hk2 h2
    have hvd:RunV X.drew rb bn bw m (vnames vs) now was:=HV.out.1.below (hbw.drew)
    have hlk:=(hvd.mn.look (HV.out.2 v (List.mem_of_getElem? hv))).1
    rw[<-hS] at hlk
    obtain ⟨x,hx⟩:∃x,x=now v.name:=⟨_,rfl⟩
    rw[<-hx] at hlk
    have hbz:Below X.heap.size X (X.alloc (.cells #[.int .i64 x] 2)).drew:=(ck_grown _ _).drew
    have hrow:Row64 w.heap.size (X.alloc (.cells #[.int .i64 x] 2)).drew (.slice al zs.length cl) zs:=(hr1.below hbx).below hbz
    obtain ⟨g1,cap1,w5,E1,hrow5,hgr5⟩:=app64 w.heap.size _ _ zs x X.heap.size hrow (cell_row (ck_new X (.cells #[.int .i64 x] 2)) 0 rfl) (by have:=hbw.size;simp;omega) hzl
    have hb5:Below w.heap.size w w5:=(ck_all hbw hbz).grown hgr5 (by have:=hbw.size;simp;omega) (fun b hb=>(hr1.lt b hb).1)
    have p1:X.drew.cell? ⟨rb,1,none⟩=some (.map (some bn)):=hvd.hn
    have p2:X.drew.cell? ⟨q,1,none⟩=some (.string S):=cell_row hkx 1 rfl
    have HS1:Hid (w5.cell? ⟨rb,1,none⟩=some (.map (some bn))/\w5.cell? ⟨q,1,none⟩=some (.string S)):=by
     have h5:=hgr5
     refine ⟨ck_cell hb5 HV.out.1.hn,?_⟩
     have hne:some q≠(Value.slice al zs.length cl).ownBlock:=fun e=>by have:=(hr1.lt q e.symm).2;omega
     rw[World.cell?_of_block (w:=(X.alloc (.cells #[.int .i64 x] 2)).drew) (a:=⟨q,1,none⟩) (h5.block q (lt_of_block (ck_old hkx)) hne)]
     exact cell_row (ck_old hkx) 1 rfl
    have HS2:Hid ((X.alloc (.cells #[.int .i64 x] 2)).drew.cell? ⟨rb,1,none⟩=some (.map (some bn))/\(X.alloc (.cells #[.int .i64 x] 2)).drew.cell? ⟨q,1,none⟩=some (.string S)):=⟨ck_cell hbz (ck_cell hbw HV.out.1.hn),cell_row (ck_old hkx) 1 rfl⟩
    have HNX:Hid (Row64 w.heap.size w5 (.slice (some ⟨g1,0,none⟩) (zs.length+1) cap1) (tellC (fun k=>decide (k=2)) (vs.take (k+1)) now)/\Below w.heap.size w w5):=⟨by rw[htk,<-hx];exact hrow5,hb5⟩
    rw[hX] at z0 hask
    rw[hq] at z0
    clear hr hr1 hr2 hv hS hkd hfi hbx hkx hbw hbz htk hzs hzl hvd hrow hrow5 hgr5 hb5 hx hg1 hg2 hg3
    go_upto_region 6 with (refine hask.mono ?_;rintro e w' ⟨rfl,hw'⟩;obtain rfl:=hw'.symm)
    rw[<-hX,<-hq]
    clear hX hq z0 hask
    go_region_held3 (fun W=>W.cell? ⟨rb,1,none⟩=some (.map (some bn))/\W.cell? ⟨q,1,none⟩=some (.string S)) (first|exact HS1.out|exact HS2.out|go_keep) (first|(refine step_app_u (by rfl) (.tmp 21) (.tmp 29) _ (by rfl) _ _ _ (by rfl) (by rfl) E1 ?_;have hS1:=HS1.out))
    all_goals
     go_wp2_with fail
     go_roundg (N-(k+1))
     case measure=>omega
     case rel=>exact ⟨k+1,rfl,by omega,by go_num,HNX.out⟩
   ·rw[if_neg (by simpa using h2)] at htk
    have hk2:(kd==2)=false:=by rw[hkd];simp;omega
    rw[hk2] at hask
    clear hk2 h2
    have HNX:Hid (Row64 w.heap.size X (.slice al zs.length cl) (tellC (fun k=>decide (k=2)) (vs.take (k+1)) now)/\Below w.heap.size w X):=⟨by rw[htk];exact hr1.below hbx,hbw⟩
    rw[hX] at z0 hask HNX
    rw[hq] at z0
    clear hr hr1 hr2 hv hS hkd hfi hX hq hbx hkx hbw htk hzs hzl hg1 hg2 hg3
    go_wp2_with (refine hask.mono ?_;rintro e w' ⟨rfl,hw'⟩;obtain rfl:=hw'.symm)
    go_roundg (N-(k+1))
    case measure=>omega
    case rel=>exact ⟨k+1,rfl,by omega,by go_num,HNX.out⟩
  ·obtain rfl:k=N:=by omega
   rw[HN.out,List.take_length] at hzs
   have HF:Hid (Row64 w.heap.size wr (.slice al zs.length cl) (tellC (fun k=>decide (k=2)) vs now)/\Below w.heap.size w wr):=⟨by rw[<-hzs];exact hr1,hr2⟩
   clear hr hr1 hr2 hzs hzl
   go_wp2_with fail
   go_ret
   exact ⟨_,rfl,HF.out⟩
end
end
section
open Go.RowKit Px
theorem Tryz.uInfoStr:(Tryz.prog.info? 9).map (fun i=>(i.zero,i.size,i.bytes))=some (some (.string ⟨#[]⟩),1,16):=by kernel_rfl
def RowS (B:Nat) (w:World) (v:Value) (zs:List Str):Prop:=w.ownsRow B 9 1 v zs.length (zs.map sv)
structure RegsM (A:Nat->Prop) (ns:List Str) (k:Nat) (w:World) (B gI:Nat) (gr:Nat->Nat) (rs:List (List (St k))) (ds:List (Rd k)):Prop where
 len:ds.length=rs.length
 lt:∀b,A b->b<B
 reg:∀j r d,rs[j]?=some r->ds[j]?=some d->w.cell? ⟨gI,j,none⟩=some (.pointer (some ⟨gr j,0,none⟩))/\gI<B/\StAll ns k r/\∃P,RegM A k w P r d (gr j)/\∀b,P b->b<B
theorem RegsM.below {A:Nat->Prop}{ns:List Str}{k:Nat}{w w':World}{B gI:Nat}{gr:Nat->Nat}{rs:List (List (St k))}{ds:List (Rd k)}(h:RegsM A ns k w B gI gr rs ds) (hb:Below B w w'):RegsM A ns k w' B gI gr rs ds:=
 ⟨h.len,h.lt,fun j r d hr hd=>by
  obtain ⟨h1,h2,h5,P,h3,h4⟩:=h.reg j r d hr hd
  exact ⟨by rw[World.cell?_of_block (w:=w) (a:=⟨gI,j,none⟩) (hb.block gI h2)];exact h1,h2,h5,P,RegM.keep k h3 (fun b hb' _=>hb.block b (h.lt b hb')) (fun b hb'=>hb.block b (h4 b hb')),h4⟩⟩
def names (k:Nat) (rs:List (List (St k))) (ds:List (Rd k)) (j:Nat):List Str:=((List.zipWith (thereK k) rs ds).take j).flatten
theorem names_step {k:Nat}{rs:List (List (St k))}{ds:List (Rd k)}{j:Nat}{r:List (St k)}{d:Rd k}(hr:rs[j]?=some r) (hd:ds[j]?=some d):names k rs ds (j+1)=names k rs ds j++thereK k r d:=by
 unfold names
 have e:(List.zipWith (thereK k) rs ds)[j]?=some (thereK k r d):=by rw[List.getElem?_zipWith,hr,hd]
 rw[List.take_add_one,e,List.flatten_append]
 simp
theorem names_all {k:Nat}{rs:List (List (St k))}{ds:List (Rd k)}{n:Nat}(h1:ds.length=rs.length) (hn:n=rs.length):names k rs ds n=(List.zipWith (thereK k) rs ds).flatten:=by
 unfold names
 rw[List.take_of_length_le (by rw[List.length_zipWith];omega)]
theorem names_len {k:Nat}{rs:List (List (St k))}{ds:List (Rd k)}(j:Nat):(names k rs ds j).length≤(List.zipWith (thereK k) rs ds).flatten.length:=by
 unfold names
 rw[<-List.take_append_drop j (List.zipWith (thereK k) rs ds)]
 generalize List.zipWith (thereK k) rs ds=l
 simp only[List.take_append_drop]
 have:(l.take j).flatten.length+(l.drop j).flatten.length=l.flatten.length:=by rw[<-List.length_append,<-List.flatten_append,List.take_append_drop]
 omega
def ThereOk (A:Nat->Prop) (ns:List Str) (k:Nat):Prop:=∀{w:World}{B gI cap:Nat}{ad:Option Addr}{gr:Nat->Nat}{lv:Value}{zs:List Str}{rs:List (List (St k))}{ds:List (Rd k)},RegsM A ns k w B gI gr rs ds->RowS B w lv zs->B≤w.heap.size->(0<rs.length->ad=some ⟨gI,0,none⟩)->rs.length≤maxLen->zs.length+(List.zipWith (thereK k) rs ds).flatten.length≤1000000->
 Calls Tryz.prog 42 #[lv,.slice ad rs.length cap] w fun e w'=>∃v,e=.returned v/\Hid (RowS B w' v (zs++(List.zipWith (thereK k) rs ds).flatten)/\Below B w w')
section
variable {A:Nat->Prop}{ns:List Str}{k:Nat}
theorem thereF_none {σ ρ:Type}{f:List σ->ρ->List Str}{L:List (StF σ)}{d:RdF ρ}(h:d.there=none):thereF f L d=[]:=by unfold thereF;rw[h]
theorem thereF_some {σ ρ:Type}{f:List σ->ρ->List Str}{L:List (StF σ)}{d:RdF ρ}{i:Nat}{s:StF σ}{x:SdF ρ}(h:d.there=some i) (hs:L[i]?=some s) (hx:d.sts[i]?=some x):thereF f L d=s.name::(List.zipWith f s.regions x.inside).flatten:=by
 unfold thereF
 rw[h]
 simp only
 rw[hs,hx]
theorem RMem.inside {P:Nat->Prop}{w:World}{g:Nat}{L:List (StF (St k))}{d:RdF (Rd k)}{l:Lie}{B i:Nat}{s:StF (St k)}{x:SdF (Rd k)}(h:RMem A w (RegM A k w) P L d g l) (hP:∀b,P b->b<B) (hA:∀b,A b->b<B) (hst:∀r∈s.regions,StAll ns k r) (hs:L[i]?=some s) (hx:d.sts[i]?=some x):RegsM A ns k w B (l.gI i) (l.gr i) s.regions x.inside:=by
 have hm:=h.st i s x hs hx
 refine ⟨hm.il,hA,fun j r d' hr hd=>?_⟩
 obtain ⟨_,_,_,h2⟩:=hm.iy
 have hlt:j<s.regions.length:=(List.getElem?_eq_some_iff.1 hr).1
 exact ⟨(hm.im j r d' hr hd).1,hP _ (h2 (by omega)).2.1,hst r (List.mem_of_getElem? hr),_,(hm.im j r d' hr hd).2,fun b hb=>hP b hb.1⟩
theorem there_zero:ThereOk A ns 0:=by
 intro w B gI cap ad gr lv zs rs ds h hrow hB had hmx hlen
 have hrs:rs=[]:=by
  cases rs with
  | nil=>rfl
  | cons r rs=>
   cases ds with
   | nil=>have:=h.len;simp at this
   | cons d ds=>obtain ⟨_,_,_,P,h3,_⟩:=h.reg 0 r d rfl rfl;exact h3.elim
 subst hrs
 obtain ⟨al,cl,rfl⟩:=owns_shape hrow
 have HF:Hid (RowS B w (.slice al zs.length cl) (zs++[])/\Below B w w):=⟨by rw[List.append_nil];exact hrow,Below.refl _ _⟩
 clear h hrow hB had hmx hlen
 go_enter Tryz.func42,Tryz.ntmps42
 go_wp2_with fail
 go_loopg [0,9] 1 (fun f lv i wr=>lv=.slice al zs.length cl/\i=.int .i64 0/\wr=w)
 case atStart=>exact ⟨rfl,rfl,rfl⟩
 case round=>
  obtain ⟨rfl,rfl,rfl⟩:=hrel
  go_wp2_with fail
  go_ret
  exact ⟨_,rfl,HF.out⟩
set_option maxRecDepth 100000 in
set_option maxHeartbeats 8000000 in
theorem there_succ (ih:ThereOk A ns k):ThereOk A ns (k+1):=by
 intro w B gI cap ad gr lv zs rs ds h hrow hB had hmx hlen
 obtain ⟨i0,hi0,hz0,hz1,hz2⟩:=info_parts Tryz.uInfoStr
 obtain ⟨n,hn⟩:∃n,n=rs.length:=⟨_,rfl⟩
 rw[<-hn] at had hmx ⊢
 have hn6:(n:Int)≤9223372036854775807:=by unfold maxLen at hmx;omega
 obtain ⟨al,cl,rfl⟩:=owns_shape hrow
 have H:Hid (RegsM A ns (k+1) w B gI gr rs ds/\B≤w.heap.size/\n=rs.length/\zs.length+(List.zipWith (thereK (k+1)) rs ds).flatten.length≤1000000):=⟨h,hB,hn,hlen⟩
 have HAD:Hid (0<n->ad=some ⟨gI,0,none⟩):=had
 have HIH:Hid (ThereOk A ns k):=ih
 have H0:Hid (RowS B w (.slice al zs.length cl) (zs++names (k+1) rs ds 0)/\Below B w w):=⟨by rw[show names (k+1) rs ds 0=[] by unfold names;rw[List.take_zero];rfl,List.append_nil];exact hrow,Below.refl _ _⟩
 clear h hrow hB had hmx hlen ih hn
 go_enter Tryz.func42,Tryz.ntmps42
 go_wp2_with fail
 go_loopg [0,9] n (fun f lv i wr=>∃j:Nat,f=n-j/\j≤n/\i=.int .i64 (j:Int)/\Hid (RowS B wr lv (zs++names (k+1) rs ds j)/\Below B w wr))
 case atStart=>exact ⟨0,by omega,by omega,rfl,H0.out⟩
 case round=>
  obtain ⟨j,rfl,hj,rfl,hr⟩:=hrel
  obtain ⟨hr1,hr2⟩:=hr.out
  obtain ⟨a1,c1,e⟩:=owns_shape hr1
  subst e
  by_cases hlt:j<n
  ·obtain ⟨r,hrj⟩:∃r,rs[j]?=some r:=⟨rs[j]'(by rw[<-H.out.2.2.1];exact hlt),by rw[List.getElem?_eq_getElem]⟩
   obtain ⟨dj,hdj⟩:∃dj,ds[j]?=some dj:=⟨ds[j]'(by rw[H.out.1.len,<-H.out.2.2.1];exact hlt),by rw[List.getElem?_eq_getElem]⟩
   have hst:=names_step hrj hdj
   obtain ⟨cj,hgI,hsa,P,⟨l,hR⟩,hPB⟩:=(H.out.1.below hr2).reg j r dj hrj hdj
   have hix:=ixG ad gI n cap j hlt HAD.out
   have hcT:wr.cell? ⟨gr j,1,none⟩=some (pS l.gS (show RdF (Rd k) from dj).there):=cell_row hR.hg 1 rfl
   obtain ⟨zz,hzz⟩:∃zz,zz=zs++names (k+1) rs ds j:=⟨_,rfl⟩
   have hzl:zz.length≤1000000:=by rw[hzz,List.length_append];have:=names_len (rs:=rs) (ds:=ds) j;have:=H.out.2.2.2;omega
   have hnx:=names_len (rs:=rs) (ds:=ds) (j+1)
   have HB:Hid (B≤wr.heap.size):=Nat.le_trans H.out.2.1 hr2.size
   rw[<-hzz] at hr1 ⊢
   cases hth:(show RdF (Rd k) from dj).there with
   | none=>
    rw[hth] at hcT
    have hcN:wr.cell? ⟨gr j,1,none⟩=some (.pointer none):=hcT
    have HN:Hid (RowS B wr (.slice a1 zz.length c1) (zs++names (k+1) rs ds (j+1))/\Below B w wr):=⟨by rw[hst,show thereK (k+1) r dj=[] from thereF_none hth,List.append_nil,<-hzz];exact hr1,hr2⟩
    clear hr hr1 hr2 hrj hdj hst hgI hsa hR hPB hcT hzz hzl hnx hth
    go_wp2_with fail
    go_roundg (n-(j+1))
    case measure=>omega
    case rel=>exact ⟨j+1,rfl,by omega,by go_num,HN.out⟩
   | some i=>
    rw[hth] at hcT
    obtain ⟨oi,hoi⟩:∃oi,oi=i*11:=⟨_,rfl⟩
    have hcN:wr.cell? ⟨gr j,1,none⟩=some (.pointer (some ⟨l.gS,oi,none⟩)):=by rw[hoi];exact hcT
    have hil:=hR.th i hth
    obtain ⟨s,hs⟩:∃s,(show List (StF (St k)) from r)[i]?=some s:=⟨_,List.getElem?_eq_getElem hil⟩
    obtain ⟨x,hx⟩:∃x,(show RdF (Rd k) from dj).sts[i]?=some x:=⟨_,List.getElem?_eq_getElem (by rw[hR.len];exact hil)⟩
    have hm:=hR.st i s x hs hx
    have d0:=hm.c0
    obtain ⟨S,hS⟩:∃S,Value.string S=sv s.name:=⟨_,rfl⟩
    rw[<-hS,<-hoi] at d0
    have hth2:thereK (k+1) r dj=s.name::(List.zipWith (thereK k) s.regions x.inside).flatten:=thereF_some hth hs hx
    rw[hth2] at hst
    have hstr:=hsa s (List.mem_of_getElem? hs)
    have hgS:l.gS<B:=hPB _ hR.ps.1
    have hgr:gr j<B:=hPB _ hR.pg.1
    obtain ⟨ai,ci,d10,hai⟩:=hm.iy
    rw[<-hoi] at d10
    have hin:=hR.inside (B:=B) hPB H.out.1.lt hstr.2 hs hx
    have HC:Hid (∀W,Below B wr W->W.cell? ⟨gr j,1,none⟩=some (.pointer (some ⟨l.gS,oi,none⟩))/\W.cell? ⟨l.gS,oi+10,none⟩=some (.slice ai s.regions.length ci)/\RegsM A ns k W B (l.gI i) (l.gr i) s.regions x.inside):=fun W hW=>
     ⟨by rw[World.cell?_of_block (w:=wr) (a:=⟨gr j,1,none⟩) (hW.block _ hgr)];exact hcN,by rw[World.cell?_of_block (w:=wr) (a:=⟨l.gS,oi+10,none⟩) (hW.block _ hgS)];exact d10,hin.below hW⟩
    have HST:Hid (names (k+1) rs ds (j+1)=names (k+1) rs ds j++s.name::(List.zipWith (thereK k) s.regions x.inside).flatten/\zz=zs++names (k+1) rs ds j/\Value.string S=sv s.name/\s.regions.length≤maxLen/\(0<s.regions.length->ai=some ⟨l.gI i,0,none⟩)/\zz.length+1+(List.zipWith (thereK k) s.regions x.inside).flatten.length≤1000000):=⟨hst,hzz,hS,hstr.1.il,fun hp=>(hai hp).1,by
     have h1:=H.out.2.2.2
     rw[hst] at hnx
     rw[hzz]
     simp only[List.length_append,List.length_cons] at hnx ⊢
     omega⟩
    have HR2:Hid (Below B w wr/\RowS B wr (.slice a1 zz.length c1) zz):=⟨hr2,hr1⟩
    have hown:wr.ownsRow B 9 1 (.slice a1 zz.length c1) zz.length (zz.map sv):=hr1
    have hBs:=HB.out
    clear hr hr2 hr1 hrj hdj hst hgI hsa hR hPB hcT hzz hnx hth hoi hil hs hx hm hS hth2 hstr hgS hgr d10 hai hin
    go_upto_region 5 with fail
    clear cj hix
    have HAPP:Hid (∀v5 w5,w5.ownsRow B 9 1 v5 (zz.length+1) (zz.map sv++[.string S])->(wr.alloc (.cells #[.string S] 9)).grownBy w5 (Value.slice a1 zz.length c1).ownBlock->∃a5 n5 c5,v5=.slice a5 n5 c5/\w5.cell? ⟨gr j,1,none⟩=some (.pointer (some ⟨l.gS,oi,none⟩))/\w5.cell? ⟨l.gS,oi+10,none⟩=some (.slice ai s.regions.length ci)/\Hid (RegsM A ns k w5 B (l.gI i) (l.gr i) s.regions x.inside/\RowS B w5 v5 (zz++[s.name])/\B≤w5.heap.size/\Below B w w5)):=fun v5 w5 hown5 hgrow=>by
     have hb5:Below B wr w5:=((Below.refl B wr).alloc hBs _).grown hgrow (by simp;omega) (fun b hb=>(hown.lt b hb).1)
     obtain ⟨b1,b2,b3⟩:=HC.out w5 hb5
     have hrow5:RowS B w5 v5 (zz++[s.name]):=by
      unfold RowS
      rw[List.length_append,List.map_append,List.map_cons,List.map_nil,<-HST.out.2.2.1];exact hown5
     obtain ⟨a5,c5,e5⟩:=owns_shape hrow5
     exact ⟨a5,_,c5,e5,b1,b2,b3,hrow5,Nat.le_trans hBs hb5.size,HR2.out.1.trans hb5⟩
    go_wp2_with (at_builtin;refine wpList_append_own_at _ rfl (.tmp 18) (.tmp 27) 44 rfl B 9 i0 (.string ⟨#[]⟩) 1 16 Tryz.underlying44 hi0 hz0 hz1 hz2 rfl (by decide) _ _ _ rfl (hown.alloc _) ⟨wr.heap.size,0,none⟩ 1 1 [.string S] rfl rfl (cell_one_new _ _ _) (by intro u hu;simp at hu;subst hu;rfl) (by unfold maxLen;omega) (by omega) (by simp;omega) ?_;intro v5 w5 hown5 hgrow _ hat;obtain ⟨a5,n5,c5,rfl,b1,b2,h5⟩:=HAPP.out v5 w5 hown5 hgrow)
    have hcall:=HIH.out (cap:=ci) (ad:=ai) h5.out.1 h5.out.2.1 h5.out.2.2.1 HST.out.2.2.2.2.1 HST.out.2.2.2.1 (by rw[List.length_append];exact HST.out.2.2.2.2.2)
    have HB5:Hid (Below B w w5):=h5.out.2.2.2
    clear hown hown5 hgrow hat h5 HR2 HC hcN d0 HAPP b1 b2
    refine hcall.mono ?_
    rintro e w6 ⟨v6,rfl,h6⟩
    obtain ⟨a6,n6,c6,e6⟩:∃a6 n6 c6,v6=.slice a6 n6 c6:=by obtain ⟨a6,c6,e6⟩:=owns_shape h6.out.1;exact ⟨a6,_,c6,e6⟩
    subst e6
    have HN:Hid (RowS B w6 (.slice a6 n6 c6) (zs++names (k+1) rs ds (j+1))/\Below B w w6):=by
     refine ⟨?_,HB5.out.trans h6.out.2⟩
     rw[HST.out.1,<-List.append_assoc,<-HST.out.2.1]
     have:=h6.out.1
     rw[List.append_assoc] at this
     simpa using this
    clear hcall h6
    go_wp2_with fail
    go_roundg (n-(j+1))
    case measure=>omega
    case rel=>exact ⟨j+1,rfl,by omega,by go_num,HN.out⟩
  ·obtain rfl:j=n:=by omega
   have HF:Hid (RowS B wr (.slice a1 (zs++names (k+1) rs ds j).length c1) (zs++(List.zipWith (thereK (k+1)) rs ds).flatten)/\Below B w wr):=⟨by rw[<-names_all (k:=k+1) H.out.1.len H.out.2.2.1];exact hr1,hr2⟩
   clear hr hr1 hr2
   go_wp2_with fail
   go_ret
   exact ⟨_,rfl,HF.out⟩
end
end
section
open Go.RowKit Px
structure RnL where
 bn:Nat
 bw:Nat
 m:Nat
 gR:Nat
 gr:Nat->Nat
 rl:Nat->Nat
structure ChartR (c:Chart):Prop where
 vl:c.vars.length≤1000000
 vn:∀v∈c.vars,v.name.length≤maxLen
 rl:c.regions.length≤maxLen
 st:∀L∈c.regions,StAll (vnames c.vars) 6 L
structure RnM (A:Nat->Prop) (w:World) (c:Chart) (r:Rn) (rb:Nat) (Q:Nat->Prop) (x:RnL):Prop where
 hv:∃vv adR capR,w.heap[rb]?=some (.cells #[vv,.map (some x.bn),.map (some x.bw),.slice adR c.regions.length capR] 79 (0,0))/\IsVars A w c.vars vv/\(0<c.regions.length->adR=some ⟨x.gR,0,none⟩/\Q x.gR/\x.rl x.gR=3)
 mn:MapE w x.bn x.m (vnames c.vars) r.now
 mw:MapE w x.bw x.m (vnames c.vars) r.was
 hm:x.m≤1000000
 q0:Q rb/\x.rl rb=0
 q1:Q x.bn/\x.rl x.bn=1
 q2:Q x.bw/\x.rl x.bw=2
 hA:∀b,A b->b<w.heap.size/\¬Q b
 hQ:∀b,Q b->b<w.heap.size
 len:r.ds.length=c.regions.length
 reg:∀j L d,c.regions[j]?=some L->r.ds[j]?=some d->w.cell? ⟨x.gR,j,none⟩=some (.pointer (some ⟨x.gr j,0,none⟩))/\RegM A 6 w (fun b=>Q b/\x.rl b=4+j) L d (x.gr j)
structure FrQ (Q:Nat->Prop) (w w':World):Prop where
 os:w'.os=w.os
 tape:w'.tape=w.tape
 output:w'.output=w.output
 size:w.heap.size≤w'.heap.size
 block:∀b,b<w.heap.size->¬Q b->w'.heap[b]?=w.heap[b]?
theorem FrQ.refl (Q:Nat->Prop) (w:World):FrQ Q w w:=⟨rfl,rfl,rfl,Nat.le_refl _,fun _ _ _=>rfl⟩
theorem FrQ.trans {Q:Nat->Prop}{w w' w'':World}(h:FrQ Q w w') (k:FrQ Q w' w''):FrQ Q w w'':=
 ⟨k.os.trans h.os,k.tape.trans h.tape,k.output.trans h.output,Nat.le_trans h.size k.size,fun b hb hq=>(k.block b (Nat.lt_of_lt_of_le hb h.size) hq).trans (h.block b hb hq)⟩
theorem FrQ.of_below {Q:Nat->Prop}{w w':World}(h:Below w.heap.size w w'):FrQ Q w w':=⟨h.os,h.tape,h.output,h.size,fun b hb _=>h.block b hb⟩
theorem FrQ.of_frp {Q P:Nat->Prop}{bn:Nat}{w w':World}(h:FrP P bn w w') (hP:∀b,P b->Q b) (hb:Q bn):FrQ Q w w':=
 ⟨h.os,h.tape,h.output,h.size,fun b hl hq=>h.block b hl (fun hp=>hq (hP b hp)) (fun e=>hq (e▸hb))⟩
section
variable {A Q:Nat->Prop}{w w':World}{c:Chart}{r:Rn}{rb:Nat}{x:RnL}
theorem RnM.runV (h:RnM A w c r rb Q x):RunV w rb x.bn x.bw x.m (vnames c.vars) r.now r.was:=by
 obtain ⟨vv,aR,cR,hk,_⟩:=h.hv
 exact ⟨cell_row hk 1 rfl,cell_row hk 2 rfl,h.mn,h.mw,h.hm⟩
theorem RnM.rn (h:RnM A w c r rb Q x):rb≠x.bn:=fun e=>by have h1:=h.q0.2;have h2:=h.q1.2;rw[<-e] at h2;omega
theorem RnM.wn (h:RnM A w c r rb Q x):x.bw≠x.bn:=fun e=>by have h1:=h.q2.2;have h2:=h.q1.2;rw[<-e] at h2;omega
theorem RnM.sep (h:RnM A w c r rb Q x) (j:Nat):Sep A (fun b=>Q b/\x.rl b=4+j) w rb x.bn x.bw:=
 ⟨fun b hb=>⟨(h.hA b hb).1,fun hq=>(h.hA b hb).2 hq.1,fun e=>(h.hA b hb).2 (e▸h.q1.1)⟩,
  fun b hb=>⟨h.hQ b hb.1,fun e=>by have:=h.q0.2;rw[<-e,hb.2] at this;omega,fun e=>by have:=h.q1.2;rw[<-e,hb.2] at this;omega,fun e=>by have:=h.q2.2;rw[<-e,hb.2] at this;omega⟩,h.rn,h.wn⟩
theorem RnM.apart {Q':Nat->Prop}(h:RnM A w c r rb Q x) (hf:FrQ Q' w w') (hQ:∀b,Q b->¬Q' b) (hA:∀b,A b->¬Q' b):RnM A w' c r rb Q x:=by
 have hq:∀b,Q b->w'.heap[b]?=w.heap[b]?:=fun b hb=>hf.block b (h.hQ b hb) (hQ b hb)
 have ha:∀b,A b->b<w.heap.size->w'.heap[b]?=w.heap[b]?:=fun b hb hl=>hf.block b hl (hA b hb)
 obtain ⟨vv,aR,cR,hk,hvs,hR⟩:=h.hv
 refine ⟨⟨vv,aR,cR,by rw[hq rb h.q0.1];exact hk,hvs.carry fun b hb hl=>⟨hb,ha b hb hl⟩,hR⟩,h.mn.keep (hq _ h.q1.1),h.mw.keep (hq _ h.q2.1),h.hm,h.q0,h.q1,h.q2,fun b hb=>⟨Nat.lt_of_lt_of_le (h.hA b hb).1 hf.size,(h.hA b hb).2⟩,fun b hb=>Nat.lt_of_lt_of_le (h.hQ b hb) hf.size,h.len,fun j L d hL hd=>?_⟩
 obtain ⟨h1,h2⟩:=h.reg j L d hL hd
 have hlt:j<c.regions.length:=(List.getElem?_eq_some_iff.1 hL).1
 exact ⟨by rw[World.cell?_of_block (w:=w) (a:=⟨x.gR,j,none⟩) (hq _ (hR (by omega)).2.1)];exact h1,RegM.keep 6 h2 ha fun b hb=>hq b hb.1⟩
theorem RnM.below (h:RnM A w c r rb Q x) (hb:Below w.heap.size w w'):RnM A w' c r rb Q x:=
 h.apart (Q':=fun _=>False) (FrQ.of_below hb) (fun _ _ h=>h) (fun _ _ h=>h)
theorem RnM.region {j:Nat}{L:List (St 6)}{d d':Rd 6}{now':Px.Env}(h:RnM A w c r rb Q x) (hL:c.regions[j]?=some L) (hd:r.ds[j]?=some d) (hf:FrP (fun b=>Q b/\x.rl b=4+j) x.bn w w') (hv:RunV w' rb x.bn x.bw x.m (vnames c.vars) now' r.was) (hR:RegM A 6 w' (fun b=>Q b/\x.rl b=4+j) L d' (x.gr j)) :
    RnM A w' c ⟨now',r.was,r.ds.set j d'⟩ rb Q x:=by
 have hS:=h.sep j
 have hq:∀b,Q b->x.rl b≠4+j->x.rl b≠1->w'.heap[b]?=w.heap[b]?:=fun b hb hr h1=>hf.block b (h.hQ b hb) (fun e=>hr e.2) (fun e=>h1 (e▸h.q1.2))
 have ha:∀b,A b->b<w.heap.size->w'.heap[b]?=w.heap[b]?:=fun b hb hl=>hf.block b hl (fun e=>(h.hA b hb).2 e.1) (hS.a b hb).2.2
 obtain ⟨vv,aR,cR,hk,hvs,hRR⟩:=h.hv
 refine ⟨⟨vv,aR,cR,by rw[hq rb h.q0.1 (by rw[h.q0.2];omega) (by rw[h.q0.2];omega)];exact hk,hvs.carry fun b hb hl=>⟨hb,ha b hb hl⟩,hRR⟩,hv.mn,hv.mw,h.hm,h.q0,h.q1,h.q2,fun b hb=>⟨Nat.lt_of_lt_of_le (h.hA b hb).1 hf.size,(h.hA b hb).2⟩,fun b hb=>Nat.lt_of_lt_of_le (h.hQ b hb) hf.size,by simpa using h.len,fun j' L' d0 hL' hd'=>?_⟩
 have hlt:j'<c.regions.length:=(List.getElem?_eq_some_iff.1 hL').1
 have hgR:=hRR (by omega)
 have hcell:∀{v:Value},w.cell? ⟨x.gR,j',none⟩=some v->w'.cell? ⟨x.gR,j',none⟩=some v:=fun {v} hv'=>by
  rw[World.cell?_of_block (w:=w) (a:=⟨x.gR,j',none⟩) (hq _ hgR.2.1 (by rw[hgR.2.2];omega) (by rw[hgR.2.2];omega))];exact hv'
 by_cases e:j=j'
 ·subst e
  rw[hL] at hL'
  injection hL' with hL'
  subst hL'
  have hjl:j<r.ds.length:=(List.getElem?_eq_some_iff.1 hd).1
  simp[hjl] at hd'
  subst hd'
  exact ⟨hcell (h.reg j L d hL hd).1,hR⟩
 ·rw[List.getElem?_set,if_neg e] at hd'
  obtain ⟨h1,h2⟩:=h.reg j' L' d0 hL' hd'
  exact ⟨hcell h1,RegM.keep 6 h2 ha fun b hb=>hq b hb.1 (by rw[hb.2];omega) (by rw[hb.2];omega)⟩
theorem RnM.setVars {now':Px.Env}(h:RnM A w c r rb Q x) (hf:FrP (fun _=>False) x.bn w w') (hv:RunV w' rb x.bn x.bw x.m (vnames c.vars) now' r.was):RnM A w' c ⟨now',r.was,r.ds⟩ rb Q x:=by
 have hq:∀b,Q b->x.rl b≠1->w'.heap[b]?=w.heap[b]?:=fun b hb h1=>hf.block b (h.hQ b hb) (fun e=>e) (fun e=>h1 (e▸h.q1.2))
 have ha:∀b,A b->b<w.heap.size->w'.heap[b]?=w.heap[b]?:=fun b hb hl=>hf.block b hl (fun e=>e) ((h.sep 0).a b hb).2.2
 obtain ⟨vv,aR,cR,hk,hvs,hRR⟩:=h.hv
 refine ⟨⟨vv,aR,cR,by rw[hq rb h.q0.1 (by rw[h.q0.2];omega)];exact hk,hvs.carry fun b hb hl=>⟨hb,ha b hb hl⟩,hRR⟩,hv.mn,hv.mw,h.hm,h.q0,h.q1,h.q2,fun b hb=>⟨Nat.lt_of_lt_of_le (h.hA b hb).1 hf.size,(h.hA b hb).2⟩,fun b hb=>Nat.lt_of_lt_of_le (h.hQ b hb) hf.size,h.len,fun j' L' d0 hL' hd'=>?_⟩
 have hlt:j'<c.regions.length:=(List.getElem?_eq_some_iff.1 hL').1
 have hgR:=hRR (by omega)
 obtain ⟨h1,h2⟩:=h.reg j' L' d0 hL' hd'
 exact ⟨by rw[World.cell?_of_block (w:=w) (a:=⟨x.gR,j',none⟩) (hq _ hgR.2.1 (by rw[hgR.2.2];omega))];exact h1,RegM.keep 6 h2 ha fun b hb=>hq b hb.1 (by rw[hb.2];omega)⟩
theorem RnM.setWas {was':Px.Env}(h:RnM A w c r rb Q x) (hg:w.grownBy w' (some x.bw)) (hv:MapE w' x.bw x.m (vnames c.vars) was'):RnM A w' c ⟨r.now,was',r.ds⟩ rb Q x:=by
 have hq:∀b,Q b->x.rl b≠2->w'.heap[b]?=w.heap[b]?:=fun b hb h1=>hg.block b (h.hQ b hb) (fun e=>h1 (by injection e with e;rw[e];exact h.q2.2))
 have ha:∀b,A b->b<w.heap.size->w'.heap[b]?=w.heap[b]?:=fun b hb hl=>hg.block b hl (fun e=>(h.hA b hb).2 (by injection e with e;rw[e];exact h.q2.1))
 obtain ⟨vv,aR,cR,hk,hvs,hRR⟩:=h.hv
 refine ⟨⟨vv,aR,cR,by rw[hq rb h.q0.1 (by rw[h.q0.2];omega)];exact hk,hvs.carry fun b hb hl=>⟨hb,ha b hb hl⟩,hRR⟩,h.mn.keep (hq _ h.q1.1 (by rw[h.q1.2];omega)),hv,h.hm,h.q0,h.q1,h.q2,fun b hb=>⟨Nat.lt_of_lt_of_le (h.hA b hb).1 hg.size,(h.hA b hb).2⟩,fun b hb=>Nat.lt_of_lt_of_le (h.hQ b hb) hg.size,h.len,fun j' L' d0 hL' hd'=>?_⟩
 have hlt:j'<c.regions.length:=(List.getElem?_eq_some_iff.1 hL').1
 have hgR:=hRR (by omega)
 obtain ⟨h1,h2⟩:=h.reg j' L' d0 hL' hd'
 exact ⟨by rw[World.cell?_of_block (w:=w) (a:=⟨x.gR,j',none⟩) (hq _ hgR.2.1 (by rw[hgR.2.2];omega))];exact h1,RegM.keep 6 h2 ha fun b hb=>hq b hb.1 (by rw[hb.2];omega)⟩
end
theorem there_ok (A:Nat->Prop) (ns:List Str):∀k,ThereOk A ns k
 | 0=>there_zero
 | k+1=>there_succ (there_ok A ns k)
section
variable {A Q:Nat->Prop}{w w':World}{c:Chart}{r:Rn}{rb:Nat}{x:RnL}
set_option maxHeartbeats 1000000 in
theorem There_any (h:RnM A w c r rb Q x) (hc:ChartR c) (hlen:(thereC c r).length≤1000000) :
    Calls Tryz.prog 15 #[.pointer (some ⟨rb,0,none⟩)] w fun e w'=>∃a n m,e=.returned (.slice a n m)/\Hid (RowS w.heap.size w' (.slice a n m) (thereC c r)/\Below w.heap.size w w'):=by
 obtain ⟨vv,aR,cR,hk,hvs,hRR⟩:=h.hv
 have hreg:RegsM A (vnames c.vars) 6 w w.heap.size x.gR x.gr c.regions r.ds:=⟨h.len,fun b hb=>(h.hA b hb).1,fun j L d hL hd=>by
  obtain ⟨h1,h2⟩:=h.reg j L d hL hd
  have hlt:j<c.regions.length:=(List.getElem?_eq_some_iff.1 hL).1
  exact ⟨h1,h.hQ _ (hRR (by omega)).2.1,hc.st L (List.mem_of_getElem? hL),_,h2,fun b hb=>h.hQ b hb.1⟩⟩
 have hcall:=there_ok A (vnames c.vars) 6 (cap:=cR) (lv:=.slice none 0 0) (zs:=[]) hreg (World.ownsRow_nil _ _ _ _) (Nat.le_refl _) (fun hp=>(hRR hp).1) hc.rl (by rw[List.length_nil,Nat.zero_add];exact hlen)
 have c3:=cell_row hk 3 (u:=.slice aR c.regions.length cR) rfl
 rw[List.nil_append] at hcall
 have e:thereC c r=(List.zipWith (thereK 6) c.regions r.ds).flatten:=rfl
 rw[<-e] at hcall
 generalize c.regions.length=n at hcall c3
 clear h hc hlen hk hvs hRR hreg e
 go_enter Tryz.func15,Tryz.ntmps15
 go_wp2_with fail
 refine hcall.mono ?_
 rintro e w1 ⟨v,rfl,h1⟩
 obtain ⟨a1,n1,m1,e1⟩:∃a n m,v=.slice a n m:=by obtain ⟨a,m,e⟩:=owns_shape h1.out.1;exact ⟨a,_,m,e⟩
 subst e1
 clear hcall
 go_wp2_with fail
 go_ret
 exact ⟨_,_,_,rfl,h1.out⟩
end
end
end Go.Proofs.YtpogmfliojcnjaaGreatDoor
