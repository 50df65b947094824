import Derived.Test.YtpogmfliojcnjaaGreatDoorSPvar
import Derived.Lib.AppendStr
import Derived.Deep.LoopGhost
import Derived.Test.YtpogmfliojcnjaaGreatDoorSBack2
namespace Go.Proofs.YtpogmfliojcnjaaGreatDoor
section
open Go.RowKit Go.Lib Px
theorem append_str_at {P:Program}{w w':World}{base t u ty e n:Nat}{i:TypeInfo}(ht:P.underlying t=some (.slice e)) (hu:P.underlying u=some .string) (hi:P.info? e=some i) (hz:i.zero=some (.int .u8 0)) (hsize:i.size=1) (hby:i.bytes=1)
    {v v':Value}{xs:List Value}(hown:w.ownsRow base e 1 v n xs) (s:ByteArray) (hbytes:n+s.size≤140737488355328) (hbase:base≤w.heap.size)
    (hr:(Builtin.append_ #[t,u] ty #[v,.string s]).run P w=.ok v' w'):v'.ownBlock=v.ownBlock\/v'.ownBlock=some w.heap.size:=by
 have hxl:xs.length=n:=by simpa using hown.1
 obtain ⟨v2,w2,hr2,_,_,h4⟩:=run_append_own_string (P:=P) w base t u ty e i ht hu hi hz hsize hby v n xs hown s (by unfold maxLen;omega) hbytes hbase
 obtain ⟨rfl,rfl⟩:v2=v'/\w2=w':=by rw[hr2] at hr;injection hr with h1 h2;exact ⟨h1,h2⟩
 have hcells:=fun g hg=>hown.cells (g:=g) hg
 rcases hown.2 with ⟨rfl,rfl⟩|⟨g,cap,cur,rfl,hbg,hg,hnc,hcm,hcs,htake⟩
 ·by_cases hm:s.size=0
  ·rw[h4.2 ⟨rfl,hm⟩];exact .inl rfl
  ·have h3:=run_append_nil_string (P:=P) w t u ty e i (.int .u8 0) ht hu hi hz s (by omega) (by omega) (by rw[hby];omega)
   rw[h3] at hr2
   injection hr2 with h1 _
   rw[<-h1];exact .inr rfl
 ·by_cases hroom:n+s.size≤cap
  ·have h3:=run_append_room_string (P:=P) w t u ty e i ht hu hi hsize g n cap cur hg s hroom (by rw[hcs];omega)
   rw[h3] at hr2
   injection hr2 with h1 _
   rw[<-h1];exact .inl rfl
  ·have h3:=run_append_grow_string (P:=P) w t u ty e i (.int .u8 0) ht hu hi hz ⟨g,0,none⟩ n cap xs (by rw[hsize];simpa using hxl) (hcells g rfl) s (by omega) (by omega) (by rw[hby];exact growslice_fits (by omega) (by omega))
   rw[h3] at hr2
   injection hr2 with h1 _
   rw[<-h1];exact .inr rfl
theorem wpList_append_str_at {P:Program}{w:World}{ops:Array Oper}{rest:List Oper}{o:Oper}{a:Act}{Q:Exit->Act->World->Prop}(hgd:o.guard=none) (sl x:Operand) (t u:TypeId)
    (ho:o.op=.call { callee:=.builtin .append,args:=#[sl,x],argTypes:=#[t,u] })
    (base:Nat) (e:TypeId) (i:TypeInfo) (ht:P.underlying t=some (.slice e)) (hu:P.underlying u=some .string) (hi:P.info? e=some i) (hz:i.zero=some (.int .u8 0)) (hsize:i.size=1) (hby:i.bytes=1)
    (v:Value) (n:Nat) (xs:List Value) (hs:a.eval sl=v) (hown:w.ownsRow base e 1 v n xs) (s:ByteArray) (hx:a.eval x=.string s) (hbytes:n+s.size≤140737488355328) (hbase:base≤w.heap.size)
    (h:∀v' w',w'.ownsRow base e 1 v' (n+s.size) (xs++strCells s)->w.grownBy w' v.ownBlock->(v'.ownBlock=v.ownBlock\/v'.ownBlock=some w.heap.size)->wpList P ops Q rest (a.put o.dst v') w'):wpList P ops Q (o::rest) a w:=by
 refine wpList_plain hgd fun K hK=>?_
 obtain ⟨v',w',hr,h2,h3,_⟩:=run_append_own_string (P:=P) w base t u o.type e i ht hu hi hz hsize hby v n xs hown s (by unfold maxLen;omega) hbytes hbase
 have h5:=append_str_at ht hu hi hz hsize hby hown s hbytes hbase hr
 unfold Oper.wp execOp
 simp only[ho,resolve,invoke,builtin,Sem.run_bind,Sem.run_pure,Result.andThen_ok,List.map_toArray,List.map_cons,List.map_nil,hs,hx,hr]
 exact hK _ _ (h v' w' h2 h3 h5)
end
section
open Go.RowKit Go.Lib Px
def u8v (c:UInt8):Value:=.int .u8 c.toNat
def WAt (wb:Nat) (w:World) (v:Value) (t:Str) (deep:Nat):Prop:=
 w.heap[wb]?=some (.cells #[v,.int .i64 deep] 117 (0,0))/\w.ownsRow (wb+1) 5 1 v t.length (t.map u8v)
def Oth (wb:Nat) (v:Value) (w w':World):Prop:=Fr w.heap.size (wb::v.ownBlock.toList) w w'
def Wrote (wb:Nat) (w:World) (v:Value) (t:Str) (deep:Nat) (w':World):Prop:=
 ∃v',WAt wb w' v' t deep/\(∀g,v'.ownBlock=some g->v.ownBlock=some g\/w.heap.size≤g)/\Oth wb v w w'
theorem Wrote.refl {wb:Nat}{w:World}{v:Value}{t:Str}{deep:Nat}(h:WAt wb w v t deep):Wrote wb w v t deep w:=⟨v,h,fun _ h=>.inl h,Fr.refl _ _ _⟩
theorem Wrote.trans {wb:Nat}{w w1 w2:World}{v v1:Value}{t:Str}{deep:Nat}(hat:∀g,v1.ownBlock=some g->v.ownBlock=some g\/w.heap.size≤g) (hf:Oth wb v w w1) (k:Wrote wb w1 v1 t deep w2):Wrote wb w v t deep w2:=by
 obtain ⟨v2,h2,hat2,hf2⟩:=k
 have hs:=hf.size
 refine ⟨v2,h2,fun g hg=>?_,hf.trans (hf2.mono hs (fun x hx hlt=>?_))⟩
 ·rcases hat2 g hg with h|h
  ·exact hat g h
  ·exact .inr (Nat.le_trans hs h)
 ·simp only[List.mem_cons,Option.mem_toList] at hx ⊢
  rcases hx with rfl|hx
  ·exact .inl rfl
  ·rcases hat x hx with h|h
   ·exact .inr h
   ·omega
theorem WAt.shape {wb:Nat}{w:World}{v:Value}{t:Str}{deep:Nat}(h:WAt wb w v t deep):∃ao cap,v=.slice ao t.length cap:=owns_shape h.2
theorem Oth.block {wb:Nat}{v:Value}{w w':World}(h:Oth wb v w w') {b:Nat}(hb:b<w.heap.size) (hw:b≠wb) (hv:v.ownBlock≠some b):w'.heap[b]?=w.heap[b]?:=Fr.block h b hb (by simp[hw,hv])
theorem Oth.cell {wb:Nat}{v:Value}{w w':World}(h:Oth wb v w w') {p:Addr}(hb:p.block<w.heap.size) (hw:p.block≠wb) (hv:v.ownBlock≠some p.block):w'.cell? p=w.cell? p:=World.cell?_of_block (w:=w) (h.block hb hw hv)
theorem Tryz.infoU8:(Tryz.prog.info? 5).map (fun i=>(i.zero,i.size,i.bytes))=some (some (.int .u8 0),1,1):=by kernel_rfl
theorem strCells_u8 (s:Str):strCells ⟨s.toArray⟩=s.map u8v:=by simp[strCells,u8v]
theorem size_mk (s:Str):(⟨s.toArray⟩:ByteArray).size=s.length:=by simp[ByteArray.size]
theorem wrote_step {wb:Nat}{wr w5:World}{v v5:Value}{t s:Str}{deep:Nat}(h:WAt wb wr v t deep) (hown:w5.ownsRow (wb+1) 5 1 v5 (t.length+(⟨s.toArray⟩:ByteArray).size) (t.map u8v++strCells ⟨s.toArray⟩)) (hg:wr.grownBy w5 v.ownBlock) (hat:v5.ownBlock=v.ownBlock\/v5.ownBlock=some wr.heap.size) :
    Wrote wb wr v (t++s) deep (w5.setCell ⟨wb,0,none⟩ v5)/\w5.heap[wb]?=some (.cells #[v,.int .i64 deep] 117 (0,0)):=by
 have hwb:=lt_of_block h.1
 have hvb:∀g,v.ownBlock=some g->wb+1≤g:=fun g hg=>(h.2.lt g hg).1
 have h0:w5.heap[wb]?=some (.cells #[v,.int .i64 deep] 117 (0,0)):=by
  rw[hg.block wb hwb (fun e=>by have:=hvb wb e.symm;omega)];exact h.1
 rw[strCells_u8,size_mk] at hown
 refine ⟨⟨v5,⟨by rw[heap_setCell_same _ _ 0 _ _ _ h0];rfl,?_⟩,fun g hg5=>?_,?_⟩,h0⟩
 ·have hk:Keep (fun b=>b≠wb) (fun b=>b≠wb) w5 (w5.setCell ⟨wb,0,none⟩ v5):=fun b hb _=>⟨hb,heap_setCell_other _ _ _ _ hb⟩
  rw[List.length_append,List.map_append]
  exact own_keep hown (fun g hg=>by have:=(hown.lt g hg).1;omega) hk
 ·rcases hat with e|e
  ·exact .inl (e▸hg5)
  ·rw[e] at hg5;injection hg5 with hg5;exact .inr (by omega)
 ·exact ((Fr.refl wr.heap.size (wb::v.ownBlock.toList) wr).grown hg (Nat.le_refl _) (fun k hk=>.inr (by simp[hk]))).setCell (.inr (by simp)) _
set_option maxRecDepth 100000 in
set_option maxHeartbeats 2000000 in
theorem say_any (wb g n cap:Nat) (l:List Str) (t:Str) (deep:Nat) (v:Value) (w:World) (hW:WAt wb w v t deep) (hn:Hid (n=l.length)) (hg:Hid (∀i s,l[i]?=some s->w.cell? ⟨g,i,none⟩=some (sv s))) (hgw:g≠wb) (hgv:v.ownBlock≠some g) (hgl:g<w.heap.size) (hn9:n≤9) (hlim:t.length+l.flatten.length≤140737488355328) :
    Calls Tryz.prog 56 #[.pointer (some ⟨wb,0,none⟩),.slice (some ⟨g,0,none⟩) n cap] w fun e w'=>e=.returned (.tuple #[])/\Wrote wb w v (t++l.flatten) deep w':=by
 have HL:Hid (t.length+l.flatten.length≤140737488355328):=hlim
 have HV:Hid (v.ownBlock≠some g):=hgv
 clear hlim hgv
 obtain ⟨i0,hi,hz0,hz1,hz2⟩:=info_parts Tryz.infoU8
 go_enter Tryz.func56,Tryz.ntmps56
 go_wp2_with fail
 go_loopg [8] n (fun f i wr=>∃k:Nat,f=n-k/\k≤n/\i=.int .i64 k/\Hid (Wrote wb w v (t++(l.take k).flatten) deep wr))
 case atStart=>exact ⟨0,by omega,by omega,rfl,by rw[Hid];simpa using Wrote.refl hW⟩
 case round=>
  obtain ⟨k,rfl,hk,rfl,hr⟩:=hrel
  by_cases hlt:k<n
  ·obtain ⟨s,hs⟩:∃s,Hid (l[k]?=some s):=⟨l[k]'(by rw[<-hn.out];exact hlt),by rw[Hid,List.getElem?_eq_getElem]⟩
   obtain ⟨T,hT⟩:∃T,Hid (T=t++(l.take k).flatten):=⟨_,rfl⟩
   replace hr:=hr.out
   rw[<-hT.out] at hr
   obtain ⟨v',hA,hat,hf⟩:=hr
   have c1:=(hf.cell (p:=⟨g,k,none⟩) hgl hgw HV.out).trans (hg.out k s hs.out)
   rw[sv] at c1
   have hown:=hA.2
   obtain ⟨ao,cp,rfl⟩:=hA.shape
   obtain ⟨y1,z1⟩:=cel hA.1 0 _ rfl
   have hi0:(0:Int)≤(k:Int):=Int.natCast_nonneg _
   have hi1:(k:Int)<(n:Int):=by omega
   have hwb:=lt_of_block hA.1
   have HB:Hid (T.length+(⟨s.toArray⟩:ByteArray).size≤140737488355328/\t++(l.take (k+1)).flatten=T++s):=by
    have e:l.take (k+1)=l.take k++[s]:=by rw[List.take_add_one,hs.out];rfl
    have e2:(l.take (k+1)).flatten=(l.take k).flatten++s:=by rw[e,List.flatten_append];simp
    refine ⟨?_,by rw[e2,hT.out,List.append_assoc]⟩
    have h1:(l.take (k+1)).flatten.length≤l.flatten.length:=by
     have h2:=congrArg (fun x=>(List.flatten x).length) (List.take_append_drop (k+1) l)
     simp only[List.flatten_append,List.length_append] at h2
     omega
    rw[e2,List.length_append] at h1
    have:=HL.out
    rw[size_mk,hT.out,List.length_append];omega
   go_wp2_with (at_builtin;refine wpList_append_str_at rfl (.tmp 16) (.tmp 17) 115 9 rfl (wb+1) 5 i0 Tryz.underlying115 Tryz.underlying9 hi hz0 hz1 hz2 _ _ _ rfl hown ⟨s.toArray⟩ rfl HB.out.1 (by omega) ?_;intro v5 w5 hown5 hgrow hat5;obtain ⟨hw5,h5⟩:=wrote_step hA hown5 hgrow hat5;obtain ⟨ao5,cp5,rfl⟩:=owns_shape hown5;obtain ⟨y5,z5⟩:=cel h5 0 _ rfl)
   go_roundg (n-(k+1))
   case measure=>omega
   case rel=>exact ⟨k+1,rfl,by omega,by go_num,by rw[Hid,HB.out.2];exact Wrote.trans hat hf hw5⟩
  ·go_wp2_with fail
   go_end0
   have hkn:l.take k=l:=List.take_of_length_le (by rw[<-hn.out];omega)
   exact ⟨rfl,by rw[<-hkn];exact hr.out⟩
end
section
open Go.RowKit Go.Lib Px
structure WSt (wb:Nat) (w:World) (v0:Value) (wk:World) (vk:Value) (t:Str) (deep:Nat):Prop where
 at_:WAt wb wk vk t deep
 low:∀g,v0.ownBlock=some g->wb<g/\g<w.heap.size
 wlt:wb<w.heap.size
 hat:∀g,vk.ownBlock=some g->v0.ownBlock=some g\/w.heap.size≤g
 oth:Oth wb v0 w wk
theorem WSt.start {wb:Nat}{w:World}{v:Value}{t:Str}{d:Nat}(h:WAt wb w v t d):WSt wb w v w v t d:=
 ⟨h,fun g hg=>⟨(h.2.lt g hg).1,(h.2.lt g hg).2⟩,lt_of_block h.1,fun _ h=>.inl h,Fr.refl _ _ _⟩
section
variable {wb:Nat}{w wk w':World}{v0 vk:Value}{t t':Str}{d d':Nat}
theorem WSt.out (S:WSt wb w v0 wk vk t d):Wrote wb w v0 t d wk:=⟨vk,S.at_,S.hat,S.oth⟩
theorem WSt.step (S:WSt wb w v0 wk vk t d) (h:Wrote wb wk vk t' d' w'):∃v',WSt wb w v0 w' v' t' d':=by
 obtain ⟨v',h1,h2,h3⟩:=Wrote.trans S.hat S.oth h
 exact ⟨v',h1,S.low,S.wlt,h2,h3⟩
theorem WSt.below (S:WSt wb w v0 wk vk t d) (hb:Below wk.heap.size wk w'):WSt wb w v0 w' vk t d:=by
 have hs:=S.oth.size
 refine ⟨⟨by rw[hb.block _ (lt_of_block S.at_.1)];exact S.at_.1,own_keep (A:=fun _=>True) (A':=fun _=>True) S.at_.2 (fun _ _=>trivial) (fun b _ hl=>⟨trivial,hb.block b hl⟩)⟩,S.low,S.wlt,S.hat,?_⟩
 exact Fr.trans S.oth ((Fr.of_below hb _).mono hs (fun _ hx _=>hx))
theorem WSt.alloc (S:WSt wb w v0 wk vk t d) (o:Obj):WSt wb w v0 (wk.alloc o) vk t d:=S.below ((Below.refl _ _).alloc (Nat.le_refl _) _)
theorem WSt.drew (S:WSt wb w v0 wk vk t d):WSt wb w v0 wk.drew vk t d:=S.below ⟨rfl,rfl,rfl,Nat.le_refl _,fun _ _=>rfl⟩
theorem WSt.keep (S:WSt wb w v0 wk vk t d):Keep (· < wb) (· < wb) w wk:=fun b hb hl=>⟨hb,S.oth.block hl (by omega) (fun e=>by have:=(S.low b e).1;omega)⟩
theorem WSt.blk (S:WSt wb w v0 wk vk t d) {b:Nat}{o:Obj}(h:w.heap[b]?=some o) (hb:b≠wb) (hv:v0.ownBlock≠some b):wk.heap[b]?=some o:=by
 rw[S.oth.block (lt_of_block h) hb hv];exact h
theorem WSt.deep (S:WSt wb w v0 wk vk t d) (d':Nat):WSt wb w v0 (wk.setCell ⟨wb,1,none⟩ (.int .i64 d')) vk t d':=by
 have h0:=S.at_.1
 have hk:Keep (fun b=>b≠wb) (fun b=>b≠wb) wk (wk.setCell ⟨wb,1,none⟩ (.int .i64 d')):=fun b hb _=>⟨hb,heap_setCell_other _ _ _ _ hb⟩
 refine ⟨⟨by rw[heap_setCell_same _ _ 1 _ _ _ h0];rfl,own_keep S.at_.2 (fun g hg=>by have:=(S.at_.2.lt g hg).1;omega) hk⟩,S.low,S.wlt,S.hat,Fr.setCell S.oth (.inr (by simp)) _⟩
theorem WSt.cells (S:WSt wb w v0 wk vk t d):wk.cell? ⟨wb,1,none⟩=some (.int .i64 d)/\wk.frozen? ⟨wb,1,none⟩=false:=cel S.at_.1 1 _ rfl
end
theorem say_new {wb:Nat}{w:World}{v:Value}{t:Str}{d n:Nat}(h:WAt wb w v t d) (l:List Str) (hn:n=l.length) (h9:n≤9) (hlim:t.length+l.flatten.length≤140737488355328) (T:Nat) :
    Calls Tryz.prog 56 #[.pointer (some ⟨wb,0,none⟩),.slice (some ⟨w.heap.size,0,none⟩) n n] (w.alloc (.cells (l.map sv).toArray T)) fun e w'=>e=.returned (.tuple #[])/\Wrote wb w v (t++l.flatten) d w':=by
 have S:=(WSt.start h).alloc (.cells (l.map sv).toArray T)
 refine (say_any wb w.heap.size n n l t d v _ S.at_ hn (fun i s hi=>?_) (by have:=S.wlt;omega) (fun e=>by have:=(S.low _ e).2;omega) (by simp) h9 hlim).mono ?_
 ·rw[cell_of_row _ _ _ _ _ _ (heap_alloc_new w _)]
  simp[hi]
 ·rintro e w' ⟨rfl,h'⟩
  obtain ⟨v',S'⟩:=S.step h'
  exact ⟨rfl,S'.out⟩
theorem say1 {wb:Nat}{w:World}{v:Value}{t:Str}{d:Nat}(h:WAt wb w v t d) (a:Str) (hlim:t.length+a.length≤140737488355328) :
    Calls Tryz.prog 56 #[.pointer (some ⟨wb,0,none⟩),.slice (some ⟨w.heap.size,0,none⟩) 1 1] (w.alloc (.cells #[.string ⟨a.toArray⟩] 9)) fun e w'=>e=.returned (.tuple #[])/\Wrote wb w v (t++a) d w':=by
 have:=say_new h [a] rfl (by simp) (by simpa using hlim) 9
 simpa [sv] using this
theorem say2 {wb:Nat}{w:World}{v:Value}{t:Str}{d:Nat}(h:WAt wb w v t d) (a b:Str) (hlim:t.length+(a.length+b.length)≤140737488355328) :
    Calls Tryz.prog 56 #[.pointer (some ⟨wb,0,none⟩),.slice (some ⟨w.heap.size,0,none⟩) 2 2] (w.alloc (.cells #[.string ⟨a.toArray⟩,.string ⟨b.toArray⟩] 9)) fun e w'=>e=.returned (.tuple #[])/\Wrote wb w v (t++(a++b)) d w':=by
 have:=say_new h [a,b] rfl (by simp) (by simpa using hlim) 9
 simpa [sv] using this
theorem say3 {wb:Nat}{w:World}{v:Value}{t:Str}{d:Nat}(h:WAt wb w v t d) (a b c:Str) (hlim:t.length+(a.length+(b.length+c.length))≤140737488355328) :
    Calls Tryz.prog 56 #[.pointer (some ⟨wb,0,none⟩),.slice (some ⟨w.heap.size,0,none⟩) 3 3] (w.alloc (.cells #[.string ⟨a.toArray⟩,.string ⟨b.toArray⟩,.string ⟨c.toArray⟩] 9)) fun e w'=>e=.returned (.tuple #[])/\Wrote wb w v (t++(a++(b++c))) d w':=by
 have:=say_new h [a,b,c] rfl (by simp) (by simpa using hlim) 9
 simpa [sv] using this
set_option maxRecDepth 100000 in
set_option maxHeartbeats 2000000 in
theorem begin_any {wb:Nat}{w:World}{v:Value}{t:Str}{d:Nat}(h:WAt wb w v t d) (hd:d≤1000) (hlim:t.length+(padT d).length≤140737488355328) :
    Calls Tryz.prog 103 #[.pointer (some ⟨wb,0,none⟩)] w fun e w'=>e=.returned (.tuple #[])/\Wrote wb w v (t++padT d) d w':=by
 have S0:=WSt.start h
 obtain ⟨c1,z1⟩:=S0.cells
 have HL:Hid (t.length+2*d≤140737488355328):=by rw[Hid,<-padT_len];exact hlim
 clear hlim
 go_enter Tryz.func103,Tryz.ntmps103
 go_wp2_with fail
 go_loopg [6] d (fun f i wr=>∃k:Nat,f=d-k/\k≤d/\i=.int .i64 k/\Hid (Wrote wb w v (t++padT k) d wr))
 case atStart=>exact ⟨0,by omega,by omega,rfl,by rw[Hid,show padT 0=[] from rfl,List.append_nil];exact Wrote.refl h⟩
 case round=>
  obtain ⟨k,rfl,hk,rfl,hr⟩:=hrel
  by_cases hlt:k<d
  ·obtain ⟨T,hT⟩:∃T,Hid (T=t++padT k):=⟨_,rfl⟩
   replace hr:=hr.out
   rw[<-hT.out] at hr
   obtain ⟨v',hA,hat,hf⟩:=hr
   have HB:Hid (T.length+[(32:UInt8),32].length≤140737488355328/\t++padT (k+1)=T++[32,32]):=by
    refine ⟨?_,by rw[padT_succ,hT.out,List.append_assoc]⟩
    have:=HL.out
    rw[hT.out,List.length_append,padT_len];simp;omega
   have hi1:(k:Int)<(d:Int):=by omega
   go_wp2_with (go_at_call 56;refine (say1 hA [32,32] HB.out.1).mono ?_;rintro e w2 ⟨rfl,hw2⟩)
   go_roundg (d-(k+1))
   case measure=>omega
   case rel=>exact ⟨k+1,rfl,by omega,by go_num,by rw[Hid,HB.out.2];exact Wrote.trans hat hf hw2⟩
  ·obtain rfl:k=d:=by omega
   go_wp2_with fail
   go_end0
   exact ⟨rfl,hr.out⟩
end
end Go.Proofs.YtpogmfliojcnjaaGreatDoor
