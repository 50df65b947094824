import Derived.Test.YtcdbhoknhnimcaaGreatDoorSIl
import Derived.Test.YtcdbhoknhnimcaaGreatDoorSNtB
import Derived.Lib.SlBytesConst
set_option maxHeartbeats 2000000
namespace Go.Proofs.YtcdbhoknhnimcaaGreatDoor
section
open Go.RowKit
namespace Ix
open Nx
theorem Tryz.infoInt:(Tryz.prog.info? 3).map (fun i=>(i.zero,i.size,i.bytes))=some (some (.int .i64 0),1,8):=by kernel_rfl
theorem B5 {w w':World}{B e size n:Nat}{v:Value}{xs:List Value}(h:w.ownsRow B e size v n xs) (hk:∀g,v.ownBlock=some g->w'.heap[g]?=w.heap[g]?):w'.ownsRow B e size v n xs:=by
 refine ⟨h.1,?_⟩
 rcases h.2 with hn|⟨g,cap,cur,rfl,hb,hgg,rest⟩
 ·exact .inl hn
 ·exact .inr ⟨g,cap,cur,rfl,hb,by rw[hk g rfl];exact hgg,rest⟩
theorem aN6 {w:World}{B e size n:Nat}{v:Value}{xs:List Value}(h:w.ownsRow B e size v n xs):∃ao cap,v=.slice ao n cap/\n≤cap:=by
 rcases h.2 with ⟨rfl,h0⟩|⟨g,cap,cur,rfl,_,_,hc,_⟩
 ·exact ⟨none,0,by rw[h0],by omega⟩
 ·exact ⟨_,_,rfl,hc⟩
theorem bH9 {w:World}{B e:Nat}{v:Value}{l:List Int}(h:w.ownsRow B e 1 v l.length (l.map (Value.int .i64))):cY (fun c=>B≤c/\c<w.heap.size) w v l:=by
 have hc:=fun g hg=>World.ownsRow.cells h (g:=g) hg
 have hlt:=fun g hg=>World.ownsRow.lt h g hg
 rcases h.2 with ⟨rfl,h0⟩|⟨g,cap,cur,rfl,_⟩
 ·exact ⟨none,0,0,0,by rw[h0],fun hp=>by omega,fun k hk=>by omega⟩
 ·refine ⟨_,g,0,cap,rfl,fun _=>⟨rfl,hlt g rfl⟩,fun k hk=>?_⟩
  have:=hc g rfl k (.int .i64 (l.getD k 0)) (by rw[List.getElem?_map,List.getD_eq_getElem?_getD,List.getElem?_eq_getElem hk];rfl)
  rwa [Addr.add_lit] at this
theorem zI (w:World) (x:Value) (t:TypeId):∀j u,[x][j]?=some u->(w.alloc (.cells #[x] t)).cell? ((⟨w.heap.size,0,none⟩:Addr).add j)=some u:=fun j u hu=>by
 cases j with
 | zero=>simp at hu;rw[<-hu];exact tC _ _ _
 | succ j=>simp at hu
theorem aL7 (x:Int):∀u∈[Value.int .i64 x],u.oneCell'=true:=fun u hu=>by
 simp at hu;subst hu;rfl
structure LS (w W:World) (b:Nat) (e:TypeId) (f:List UInt8->Option (Int×List UInt8)) (r:List UInt8) (bad:Bool) (v:Value) (k:Nat) (l:List Int) (s':List UInt8) (bad':Bool):Prop where
 own:W.ownsRow w.heap.size e 1 v k (l.map (Value.int .i64))
 len:l.length=k
 rd:lA W b s' bad'
 fr:Fr w.heap.size [b] w W
 short:s'.length≤r.length
 took:(mA f r k=some (l,s')/\bad'=bad)\/(mA f r k=none/\s'=[]/\bad'=true)
theorem LS.step {w W W1 W2:World}{b:Nat}{e:TypeId}{f:List UInt8->Option (Int×List UInt8)}{r:List UInt8}{bad:Bool}{v v2:Value}{k:Nat}{l:List Int}{s' s2:List UInt8}{bad' bad2:Bool}{z:Int}{o:Obj}(h:LS w W b e f r bad v k l s' bad') (hbw:b<w.heap.size) (hnil:f []=none)
    (hr:lA W1 b s2 bad2) (hf:Fr W.heap.size [b] W W1) (hs:s2.length≤s'.length) (ht:(f s'=some (z,s2)/\bad2=bad')\/(f s'=none/\s2=[]/\bad2=true))
    (hown:W2.ownsRow w.heap.size e 1 v2 (k+1) (l.map (Value.int .i64)++[.int .i64 z])) (hg:(W1.alloc o).grownBy W2 v.ownBlock):LS w W2 b e f r bad v2 (k+1) (l++[z]) s2 bad2:=by
 have hw:=h.fr.size
 have hvne:∀g,v.ownBlock=some g->w.heap.size≤g:=fun g hgg=>(h.own.lt g hgg).1
 refine ⟨by rw[List.map_append];exact hown,by simp[h.len],?_,?_,Nat.le_trans hs h.short,?_⟩
 ·unfold lA
  rw[hg.block b (by have:=aB hr;simp;omega) (fun e=>by have:=hvne b e.symm;omega),Below.heap_alloc _ _ _ (aB hr)]
  exact hr
 ·refine (h.fr.trans (hf.mono hw (fun x hx _=>hx))).trans ⟨hg.os,hg.tape,hg.output,by have:=hg.size;simp at this;omega,fun c hc hx=>?_⟩
  have:=hf.size
  rw[hg.block c (by simp;omega) (fun e=>by have:=hvne c e.symm;omega)]
  exact Below.heap_alloc _ _ _ (by omega)
 ·rcases h.took with ⟨h1,rfl⟩|⟨h1,rfl,rfl⟩
  ·rcases ht with ⟨h2,rfl⟩|⟨h2,rfl,rfl⟩
   ·exact .inl ⟨vB f h1 h2,rfl⟩
   ·exact .inr ⟨vD f h1 h2,rfl,rfl⟩
  ·right
   rcases ht with ⟨h2,_⟩|⟨_,h3,h4⟩
   ·rw[hnil] at h2;cases h2
   ·exact ⟨qT f h1,h3,h4⟩
theorem tP (b:Nat) (s:List UInt8) (bad:Bool) (w:World) (h:lA w b s bad) (hs:s.length≤1000000000) :
    Calls Tryz.prog 84 #[.pointer (some ⟨b,0,none⟩)] w fun e w'=>∃v l s' bad',e=.returned v/\Hid (w'.ownsRow w.heap.size 2 1 v l.length (l.map (Value.int .i64))/\lA w' b s' bad'/\Fr w.heap.size [b] w w'/\s'.length≤s.length/\l.length≤4000/\((lM tk s=some (l,s')/\bad'=bad)\/(lM tk s=none/\s'=[]/\bad'=true))):=by
 have hsm:=jI b s bad w h hs
 have hbw:=aB h
 obtain ⟨i0,hi,hz0,hz1,hz2⟩:=info_parts Tryz.infoI64
 clear h
 go_enter Tryz.func84,Tryz.ntmps84
 go_upto_region 3 with (go_at_call 83;refine hsm.mono ?_;rintro e w1 ⟨c,r,bad1,rfl,hc,X⟩;clear hsm)
 have LL0:∃l0 s0 bad0,LS w w1 b 2 tk r bad1 (.slice none 0 0) 0 l0 s0 bad0:=⟨[],r,bad1,World.ownsRow_nil _ _ _ _,rfl,X.out.1,X.out.2.1,Nat.le_refl _,.inl ⟨rfl,rfl⟩⟩
 go_loopw [3,6] (fun v i wr=>∃(k:Nat),k≤c/\i=.int .i64 k/\∃l s' bad',Hid (LS w wr b 2 tk r bad1 v k l s' bad')) (fun _ i _=>c-(intOf i).toNat)
 case atStart=>exact ⟨0,Nat.zero_le _,rfl,LL0⟩
 case round=>
  clear LL0
  obtain ⟨k,hk,rfl,l,s',bad',Y⟩:=hrel
  obtain ⟨ao,cap,rfl,_⟩:=aN6 Y.out.own
  by_cases hlt:k<c
  ·have hn:Calls Tryz.prog 126 #[.pointer (some ⟨b,0,none⟩)] wr fun e w'=>∃z s2 bad2,e=.returned (.int .i64 z)/\Hid (lA w' b s2 bad2/\Fr wr.heap.size [b] wr w'/\s2.length≤s'.length/\((tk s'=some (z,s2)/\bad2=bad')\/(tk s'=none/\s2=[]/\bad2=true))):=
    (cE b s' bad' wr Y.out.rd (by have:=Y.out.short;have:=X.out.2.2.1;omega)).mono fun e w' ⟨z,s2,bad2,he,h1,h2,h3⟩=>by
     refine ⟨z,s2,bad2,he,h1,h2,?_,h3.imp id fun h=>⟨h.1,h.2.2⟩⟩
     rcases h3 with ⟨h3,_⟩|⟨_,_,rfl,_⟩
     ·have:=mG h3;omega
     ·simp
   go_wp2_with (first|(go_at_call 126;refine hn.mono ?_;rintro e w2 ⟨z,s2,bad2,rfl,Z⟩;clear hn)|(at_builtin;refine wpList_append_own_at _ rfl (.tmp 8) (.tmp 11) 22 rfl w.heap.size 2 i0 (.int .i64 0) 1 8 Tryz.underlying22 hi hz0 hz1 hz2 rfl (by decide) _ _ _ rfl ((B5 Y.out.own (fun g hg=>Z.out.2.1.block g (Y.out.own.lt g hg).2 (by have:=(Y.out.own.lt g hg).1;simp;omega))).alloc _) ⟨w2.heap.size,0,none⟩ 1 1 [.int .i64 z] rfl rfl (zI _ _ _) (aL7 z) (by unfold maxLen;omega) (by omega) (by have:=Y.out.fr.size;have:=Z.out.2.1.size;simp;omega) ?_;intro v5 w5 hown5 hgrow5 _ hat5))
   go_roundw
   case rel=>exact ⟨k+1,by omega,by go_num,l++[z],s2,bad2,Y.out.step hbw rfl Z.out.1 Z.out.2.1 Z.out.2.2.1 Z.out.2.2.2 hown5 hgrow5⟩
   case measure=>simp[intOf];omega
  ·obtain rfl:k=c:=by omega
   go_wp2_with fail
   go_ret
   refine ⟨_,l,s',bad',rfl,?_,Y.out.rd,Y.out.fr,Nat.le_trans Y.out.short X.out.2.2.1,by rw[Y.out.len];exact hc,?_⟩
   ·rw[Y.out.len];exact Y.out.own
   ·unfold lM
    rcases X.out.2.2.2 with ⟨x1,x2⟩|⟨x1,x2,x3,x4⟩
    ·simp only[x1]
     rw[Int.toNat_natCast,<-x2]
     exact Y.out.took
    ·simp only[x1]
     subst x2
     right
     rcases Y.out.took with ⟨y1,y2⟩|⟨y1,y2,y3⟩
     ·rw[mA] at y1
      injection y1 with y1
      injection y1 with _ y1
      exact ⟨trivial,by rw[<-y1];exact x3,by rw[y2];exact x4⟩
     ·exact ⟨trivial,y2,y3⟩
theorem pY (b:Nat) (s:List UInt8) (bad:Bool) (w:World) (h:lA w b s bad) (hs:s.length≤1000000000) :
    Calls Tryz.prog 85 #[.pointer (some ⟨b,0,none⟩)] w fun e w'=>∃v l s' bad',e=.returned v/\Hid (w'.ownsRow w.heap.size 3 1 v l.length (l.map (Value.int .i64))/\lA w' b s' bad'/\Fr w.heap.size [b] w w'/\s'.length≤s.length/\l.length≤4000/\((lM sm s=some (l,s')/\bad'=bad)\/(lM sm s=none/\s'=[]/\bad'=true))):=by
 have hsm:=jI b s bad w h hs
 have hbw:=aB h
 obtain ⟨i0,hi,hz0,hz1,hz2⟩:=info_parts Tryz.infoInt
 clear h
 go_enter Tryz.func85,Tryz.ntmps85
 go_upto_region 3 with (go_at_call 83;refine hsm.mono ?_;rintro e w1 ⟨c,r,bad1,rfl,hc,X⟩;clear hsm)
 have LL0:∃l0 s0 bad0,LS w w1 b 3 sm r bad1 (.slice none 0 0) 0 l0 s0 bad0:=⟨[],r,bad1,World.ownsRow_nil _ _ _ _,rfl,X.out.1,X.out.2.1,Nat.le_refl _,.inl ⟨rfl,rfl⟩⟩
 go_loopw [3,6] (fun v i wr=>∃(k:Nat),k≤c/\i=.int .i64 k/\∃l s' bad',Hid (LS w wr b 3 sm r bad1 v k l s' bad')) (fun _ i _=>c-(intOf i).toNat)
 case atStart=>exact ⟨0,Nat.zero_le _,rfl,LL0⟩
 case round=>
  clear LL0
  obtain ⟨k,hk,rfl,l,s',bad',Y⟩:=hrel
  obtain ⟨ao,cap,rfl,_⟩:=aN6 Y.out.own
  by_cases hlt:k<c
  ·have hn:Calls Tryz.prog 83 #[.pointer (some ⟨b,0,none⟩)] wr fun e w'=>∃z s2 bad2,e=.returned (.int .i64 z)/\Hid (lA w' b s2 bad2/\Fr wr.heap.size [b] wr w'/\s2.length≤s'.length/\((sm s'=some (z,s2)/\bad2=bad')\/(sm s'=none/\s2=[]/\bad2=true))):=
    (jI b s' bad' wr Y.out.rd (by have:=Y.out.short;have:=X.out.2.2.1;omega)).mono fun e w' ⟨z,s2,bad2,he,_,Z⟩=>⟨(z:Int),s2,bad2,he,Z.out.1,Z.out.2.1,Z.out.2.2.1,Z.out.2.2.2.imp id fun h=>⟨h.1,h.2.2⟩⟩
   go_wp2_with (first|(go_at_call 83;refine hn.mono ?_;rintro e w2 ⟨z,s2,bad2,rfl,Z⟩;clear hn)|(at_builtin;refine wpList_append_own_at _ rfl (.tmp 8) (.tmp 11) 23 rfl w.heap.size 3 i0 (.int .i64 0) 1 8 Tryz.underlying23 hi hz0 hz1 hz2 rfl (by decide) _ _ _ rfl ((B5 Y.out.own (fun g hg=>Z.out.2.1.block g (Y.out.own.lt g hg).2 (by have:=(Y.out.own.lt g hg).1;simp;omega))).alloc _) ⟨w2.heap.size,0,none⟩ 1 1 [.int .i64 z] rfl rfl (zI _ _ _) (aL7 z) (by unfold maxLen;omega) (by omega) (by have:=Y.out.fr.size;have:=Z.out.2.1.size;simp;omega) ?_;intro v5 w5 hown5 hgrow5 _ hat5))
   go_roundw
   case rel=>exact ⟨k+1,by omega,by go_num,l++[z],s2,bad2,Y.out.step hbw rfl Z.out.1 Z.out.2.1 Z.out.2.2.1 Z.out.2.2.2 hown5 hgrow5⟩
   case measure=>simp[intOf];omega
  ·obtain rfl:k=c:=by omega
   go_wp2_with fail
   go_ret
   refine ⟨_,l,s',bad',rfl,?_,Y.out.rd,Y.out.fr,Nat.le_trans Y.out.short X.out.2.2.1,by rw[Y.out.len];exact hc,?_⟩
   ·rw[Y.out.len];exact Y.out.own
   ·unfold lM
    rcases X.out.2.2.2 with ⟨x1,x2⟩|⟨x1,x2,x3,x4⟩
    ·simp only[x1]
     rw[Int.toNat_natCast,<-x2]
     exact Y.out.took
    ·simp only[x1]
     subst x2
     right
     rcases Y.out.took with ⟨y1,y2⟩|⟨y1,y2,y3⟩
     ·rw[mA] at y1
      injection y1 with y1
      injection y1 with _ y1
      exact ⟨trivial,by rw[<-y1];exact x3,by rw[y2];exact x4⟩
     ·exact ⟨trivial,y2,y3⟩
end Ix
end
section
open Go.RowKit
namespace Ix
open Nx
theorem aE8 (zs:List Int) (h:∀z∈zs,-9223372036854775808≤z/\z≤9223372036854775807):(zs.flatMap P8).length≤10*zs.length:=by
 induction zs with
 | nil=>simp
 | cons y m ih=>
  have h1:=ih fun z hz=>h z (by simp[hz])
  have h2:=jN (h y (by simp)).1 (h y (by simp)).2
  simp only[List.flatMap_cons,List.length_append,List.length_cons]
  omega
def gQ (zs:List Int):Prop:=∀z∈zs,-9223372036854775808≤z/\z≤9223372036854775807
theorem R9 {zs:List Int}(h:gQ zs) (hn:zs.length≤4000):(pl zs).length≤40010:=by
 have h1:=aE8 zs h
 have h2:=jN (z:=(zs.length:Int)) (by omega) (by omega)
 unfold pl
 rw[List.length_append]
 omega
structure WS (w W:World) (cs:Array Value) (q f:Nat) (v:Value) (l:List UInt8):Prop where
 ps:PS W w.heap.size q v l
 box:W.heap[w.heap.size]?=some (.cells cs 26 (0,0))
 fn:W.heap[f]?=some (.cells #[aS1 q] 101 (0,0))
 nb:v.ownBlock≠some w.heap.size
 nf:v.ownBlock≠some f
 fq:f≠q
 lq:w.heap.size<q
 lf:w.heap.size<f
 below:Below w.heap.size w W
theorem WS.moved {w W W':World}{cs:Array Value}{q f:Nat}{v v':Value}{l l':List UInt8}(h:WS w W cs q f v l) (hp:PS W' w.heap.size q v' l') (hf:PF q W W' v v'):WS w W' cs q f v' l':=by
 have hs:=h.below.size
 have b0:=aB h.box
 have bf:=aB h.fn
 refine ⟨hp,?_,?_,hf.at_.ne b0 h.nb,hf.at_.ne bf h.nf,h.fq,h.lq,h.lf,?_⟩
 ·rw[hf.block _ b0 (by have:=h.lq;omega) h.nb];exact h.box
 ·rw[hf.block _ bf h.fq h.nf];exact h.fn
 ·exact h.below.trans (aA0 hf (Nat.le_of_lt h.lq) hs (fun g hg=>(h.ps.bys.lt g hg).1))
theorem WS.more {w W W':World}{cs:Array Value}{q f:Nat}{v:Value}{l:List UInt8}(h:WS w W cs q f v l) (hb:Below W.heap.size W W'):WS w W' cs q f v l:=
 h.moved (h.ps.below hb) ((PF.refl q W v).below hb)
theorem WS.size {w W:World}{cs:Array Value}{q f:Nat}{v:Value}{l:List UInt8}(h:WS w W cs q f v l):w.heap.size≤W.heap.size:=h.below.size
theorem aB6 {w W:World}{cs:Array Value}{q f:Nat}{v:Value}{l:List UInt8}(h:WS w W cs q f v l) (z:Int) (hl:l.length≤1000000000) (h1:-9223372036854775808≤z) (h2:z≤9223372036854775807) :
    Calls Tryz.prog 47 #[.int .i64 z,.pointer (some ⟨q,0,none⟩)] W fun e W'=>e=.returned (.tuple #[])/\∃v',Hid (WS w W' cs q f v' (l++P8 z)/\PF q W W' v v'):=
 (wA z W h.ps h.size hl h1 h2).mono fun _ _ ⟨he,v',hp,hf⟩=>⟨he,v',h.moved hp hf,hf⟩
theorem zP {w W:World}{cs:Array Value}{q f:Nat}{v:Value}{l:List UInt8}(h:WS w W cs q f v l) {A:Nat->Prop}(vz:Value) (zs:List Int) (hz:cY A W vz zs) (hA:∀b,A b->b<W.heap.size/\b≠q/\v.ownBlock≠some b) (hl:l.length≤1000000) (hn:zs.length≤4000) (h64:gQ zs) :
    Calls Tryz.prog 49 #[vz,.pointer (some ⟨f,0,none⟩)] W fun e W'=>e=.returned (.tuple #[])/\∃v',Hid (WS w W' cs q f v' (l++pl zs)):=
 (bG8 vz zs W h.ps h.size (by omega) (by omega) h.fn h.fq h.nf hz hA h64).mono fun _ _ ⟨he,v',hp,hf⟩=>⟨he,v',h.moved hp hf⟩
theorem uT {w W:World}{cs:Array Value}{q f:Nat}{v:Value}{l:List UInt8}(h:WS w W cs q f v l) {B:Nat}(hB:B≤w.heap.size) {vz:Value}{zs:List Int}(hz:cY (fun b=>b<B) w vz zs):cY (fun b=>b<B) W vz zs/\∀b,b<B->b<W.heap.size/\b≠q/\v.ownBlock≠some b:=by
 have hs:=h.size
 refine ⟨hz.carry fun b hb hl=>⟨hb,h.below.block b (by omega)⟩,fun b hb=>⟨by omega,by have:=h.lq;omega,fun e=>by have:=(h.ps.bys.lt b e).1;omega⟩⟩
theorem zO {w W:World}{cs:Array Value}{q f:Nat}{v:Value}{l:List UInt8}(h:WS w W cs q f v l) {B:Nat}(hB:B≤w.heap.size) (vz:Value) (zs:List Int) (hz:cY (fun b=>b<B) w vz zs) (hn:zs.length≤4000) (hl:l.length≤1000000) (h64:gQ zs) :
    Calls Tryz.prog 50 #[vz] W fun e W1=>∃v1,e=.returned v1/\Calls Tryz.prog 49 #[v1,.pointer (some ⟨f,0,none⟩)] W1 fun e W'=>e=.returned (.tuple #[])/\∃v',Hid (WS w W' cs q f v' (l++pl zs)):=by
 refine (aZ7 vz zs W (uT h hB hz).1 (by omega)).mono fun e W1 ⟨v1,he,hi,hb,hlt⟩=>⟨v1,he,?_⟩
 refine zP (h.more hb) v1 zs hi (fun b hbb=>?_) hl hn h64
 subst hbb
 refine ⟨hlt,fun e=>?_,fun e=>?_⟩
 ·have:=aB h.ps.var
  omega
 ·have:=(h.ps.bys.lt _ e).2
  omega
theorem vQ {P:Int}{nums:Nat}{s:Sp}(h:eA P nums s=0) (hP:P≤4000) (hn:nums≤4000):∀z∈eK s,0≤z/\z≤4000:=by
 unfold eA at h
 split at h
 ·omega
 rename_i h1
 split at h
 ·omega
 rename_i h2
 have h2':=Decidable.not_not.1 h2
 have hpl:∀p,cJ P p=true->0≤p/\p≤4000:=fun p hp=>by
  unfold cJ at hp
  simp at hp
  omega
 split at h
 ·omega
 rename_i h3
 intro z hz
 unfold eK at hz
 rcases List.mem_cons.1 hz with rfl|hz
 ·omega
 rcases List.mem_cons.1 hz with rfl|hz
 ·exact hpl _ h2'.1
 by_cases hc:s.code=1
 ·have e:dJ s.code=1:=by rw[hc];rfl
  rw[e] at hz
  have:z=s.a:=by simpa using hz
  subst this
  have:=Decidable.not_not.1 (fun hx=>h3 ⟨hc,hx⟩)
  omega
 ·rw[<-tD s hc] at hz
  exact hpl z (List.all_eq_true.1 h2'.2 z hz)
theorem wZ {n:Nt}(h:dY n=(0,-1)) (hs:eU n):∀s∈n.code,∀z∈eK s,0≤z/\z≤4000:=by
 unfold dY at h
 split at h
 ·intro s hsm
  obtain ⟨j,hj,rfl⟩:=List.getElem_of_mem hsm
  have e:n.code.getD j mH=n.code[j]:=by rw[List.getD_eq_getElem?_getD,List.getElem?_eq_getElem hj];rfl
  have hz:eA n.places n.nums.length n.code[j]=0:=by
   rw[<-e]
   apply Decidable.byContradiction
   intro hne
   have key:∃k,k<n.code.length/\eA n.places n.nums.length (n.code.getD k mH)≠0/\∀i,i<k->eA n.places n.nums.length (n.code.getD i mH)=0:=by
    have:∀m,(∃k,k<m/\eA n.places n.nums.length (n.code.getD k mH)≠0)->∃k,k<m/\eA n.places n.nums.length (n.code.getD k mH)≠0/\∀i,i<k->eA n.places n.nums.length (n.code.getD i mH)=0:=by
     intro m
     induction m with
     | zero=>rintro ⟨k,hk,_⟩;omega
     | succ m ih=>
      rintro ⟨k,hk,hx⟩
      by_cases hm:∃k,k<m/\eA n.places n.nums.length (n.code.getD k mH)≠0
      ·obtain ⟨k',a,b,c⟩:=ih hm
       exact ⟨k',by omega,b,c⟩
      ·refine ⟨k,hk,hx,fun i hi=>?_⟩
       apply Decidable.byContradiction
       intro hy
       exact hm ⟨i,by omega,hy⟩
    exact this n.code.length ⟨j,hj,hne⟩
   obtain ⟨k,hk,hx,hall⟩:=key
   rw[lN n.places n.nums.length n.code k hall hk hx] at h
   exact hx (Prod.mk.inj h).1
  exact vQ hz hs.p hs.m
 ·rename_i hw
  injection h with h1 _
  exact absurd h1 hw
theorem tV {n:Nt}(h:dY n=(0,-1)) (hs:eU n):n.first.length≤4000/\(0≤n.places/\n.places≤4000)/\(∀z∈n.ins,0≤z/\z≤4000)/\(∀z∈n.outs,0≤z/\z≤4000)/\∀z∈n.keeps,0≤z/\z≤4000:=by
 have hw:cZ n=0:=by
  unfold dY at h
  split at h
  ·assumption
  ·rename_i hw
   exact absurd (Prod.mk.inj h).1 hw
 unfold cZ at hw
 split at hw
 ·omega
 rename_i h1
 split at hw
 ·omega
 rename_i h2
 split at hw
 ·omega
 rename_i h3
 have h3':=Decidable.not_not.1 h3
 have hp:=hs.p
 have hpl:∀p,cJ n.places p=true->0≤p/\p≤4000:=fun p hp=>by
  unfold cJ at hp
  simp at hp
  omega
 refine ⟨by omega,⟨by omega,hp⟩,fun z hz=>hpl z (List.all_eq_true.1 h3'.1 z hz),fun z hz=>hpl z (List.all_eq_true.1 h3'.2.1 z hz),fun z hz=>hpl z (List.all_eq_true.1 h3'.2.2 z hz)⟩
end Ix
end
end Go.Proofs.YtcdbhoknhnimcaaGreatDoor
