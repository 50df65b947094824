import Derived.Test.YthieaobjdpfcoaaGreatDoorVCo
import Derived.Test.YthieaobjdpfcoaaGreatDoorProg
set_option maxRecDepth 100000
set_option maxHeartbeats 8000000
namespace Go.Proofs.YthieaobjdpfcoaaGreatDoor
open Tryz (prog)
section
open Go.RowKit Px
def lookV (fb kb:Nat):Value:=.func (.func 227) #[] #[.pointer (some ⟨fb,0,none⟩),.pointer (some ⟨kb,0,none⟩)]
structure gK (w:World) (fb kb ck pb mb nm:Nat) (ns:List bE) (b:Bool):Prop where
 found:w.heap[fb]?=some (.cells #[.bool b] 4 (0,0))
 hkb:w.cell? ⟨kb,0,none⟩=some (.pointer (some ⟨ck,0,none⟩))
 hck:w.cell? ⟨ck,1,none⟩=some (.func (.func 112) #[] #[.pointer (some ⟨pb,0,none⟩)])
 hpb:w.heap[pb]?=some (.cells #[.map (some mb)] 177 (0,0))
 hmb:iD w mb nm (jT ns)
 ne:fb≠kb/\fb≠ck/\fb≠pb/\fb≠mb
theorem gK.fr {w w':World}{fb kb ck pb mb nm:Nat}{ns:List bE}{b b':Bool}(h:gK w fb kb ck pb mb nm ns b) (c:Fr w.heap.size [fb] w w') (k:w'.heap[fb]?=some (.cells #[.bool b'] 4 (0,0))):gK w' fb kb ck pb mb nm ns b':=by
 obtain ⟨l,s,n,r⟩:=h.ne
 have j:∀{x o:Nat}{v:Value},fb≠x->w.cell? ⟨x,o,none⟩=some v->w'.cell? ⟨x,o,none⟩=some v:=fun {x o v} hb hv=>by
  rw[c.cell (p:=⟨x,o,none⟩) (aY5 w _ hv) (by simpa using Ne.symm hb)];exact hv
 exact ⟨k,j l h.hkb,j s h.hck,by rw[c.block pb (aB h.hpb) (by simpa using Ne.symm n)];exact h.hpb,h.hmb.keep (c.block mb h.hmb.lt (by simpa using Ne.symm r)),h.ne⟩
theorem gK.below {w w':World}{fb kb ck pb mb nm:Nat}{ns:List bE}{b:Bool}(h:gK w fb kb ck pb mb nm ns b) (hb:Below w.heap.size w w'):gK w' fb kb ck pb mb nm ns b:=
 h.fr (Fr.of_below hb _) (aD hb h.found)
theorem Rn {w:World}{fb kb ck pb mb nm:Nat}{ns:List bE}{b:Bool}{s:bE}(h:gK w fb kb ck pb mb nm ns b) (j:s.length≤maxLen) :
 Calls prog 227 #[sv s,.pointer (some ⟨fb,0,none⟩),.pointer (some ⟨kb,0,none⟩)] w fun e w'=>e=.returned (.int .i64 0)/\w'=w.setCell ⟨fb,0,none⟩ (.bool (b||(jT ns s).isNone)):=by
 have c0:=aF h.found 0 (u:=.bool b) rfl
 have z0:=aG h.found 0
 have c1:=h.hkb
 have c2:=h.hck
 have c:=nG h.hpb h.hmb j
 clear h
 generalize sv s=S at c ⊢
 cases b with
 | true=>
  go_enter Tryz.func227,Tryz.ntmps227
  go_wp2_with fail
  go_ret
  exact ⟨rfl,rfl⟩
 | false=>
  cases hf:jT ns s with
  | none=>
   have e:eG ns s=-1:=by unfold eG;rw[hf]
   rw[e] at c
   clear e hf
   go_enter Tryz.func227,Tryz.ntmps227
   go_wp2_with (go_at_call 112;refine c.mono ?_;rintro e w' ⟨rfl,rfl⟩)
   go_ret
   exact ⟨rfl,rfl⟩
  | some i=>
   have e:eG ns s=(i:Int):=by unfold eG;rw[hf]
   rw[e] at c
   have k:¬(i:Int)<0:=by omega
   clear e hf
   go_enter Tryz.func227,Tryz.ntmps227
   go_wp2_with (go_at_call 112;refine c.mono ?_;rintro e w' ⟨rfl,rfl⟩)
   go_ret
   exact ⟨rfl,rfl⟩
theorem Uk (p:Addr) (w:World) :
    CallsD prog 251 #[.pointer (some p)] .returning w fun e u' w'=>e=.returned (.tuple #[])/\u'=.returning/\w'=w:=by
 refine callsD_of_wpS Tryz.func251 rfl fun h cs c=>?_
 apply wpS_seq
 apply wpS_region
 simp[wpOpsS,go_sem,recoverD,c,Tryz.ntmps251,Exit.thenS]
 refine wpS_cond (t:=false) (by simp[Act.eval,Array.replicate]) ?_
 simp only[Bool.false_eq_true,if_false]
 refine wpS_of_wp (wp_skip ?_)
 cases h
 simp_all [bodyPostS,results,Tryz.results251]
theorem Ng (x y:Value) (w:World):(binOp BinOp.eql 298 (.func (.func 227) #[] #[x,y]) .nilFunc).run prog w=.ok (.bool false) w:=by kernel_rfl
theorem xI {w:World}{fb kb ck pb mb nm:Nat}{ns:List bE}{b:Bool}{s:bE}(h:gK w fb kb ck pb mb nm ns b) (I:s.length≤maxLen) :
 Calls prog 243 #[lookV fb kb,sv s] w fun e w'=>e=.returned (.int .i64 0)/\Hid (Fr w.heap.size [fb] w w'/\gK w' fb kb ck pb mb nm ns (b||(jT ns s).isNone)):=by
 have O:∀(fn:Fn) (first cap:Array Value) (w:World),(Instr.makeFunc fn first cap).run prog w=.ok (.func fn first cap) w:=fun _ _ _ _=>rfl
 have Q:=Ng
 have u:Hid _:=h
 have c:=Rn (h.below (aL w (.cells #[.int .i64 0] 2))) I
 have D:=aB h.found
 clear h
 unfold lookV
 obtain ⟨j,n⟩:=gQx ((b||(jT ns s).isNone))
 rw[<-n] at c ⊢
 clear n
 generalize sv s=S at c ⊢
 go_enter_defers Tryz.func243,Tryz.ntmps243
 go_wp2_with (refine c.mono ?_;rintro e w' ⟨rfl,rfl⟩)
 refine leaves_cons (f:=251) (args:=#[.pointer (some ⟨w.heap.size,0,none⟩)]) (by simp) (by simp[go_sem]) ?_
 refine (Uk ⟨w.heap.size,0,none⟩ _).mono ?_
 rintro e U J ⟨rfl,rfl,rfl⟩
 have y:Fr w.heap.size [fb] w ((w.setCell ⟨fb,0,none⟩ (.bool j)).alloc (.cells #[.int .i64 0] 2)):=((Fr.refl _ _ _).setCell (.inr (by simp)) _).alloc (by simp[World.setCell]) _
 have r:((w.setCell ⟨fb,0,none⟩ (.bool j)).alloc (.cells #[.int .i64 0] 2)).heap[fb]?=some (.cells #[.bool j] 4 (0,0)):=eB (cH (l:=[.bool b]) u.out.found 0 (.bool j))
 have k:Hid (_/\_):=⟨y,u.out.fr y r⟩
 simp[Leaves,settle,results,Tryz.results243,go_sem,World.setCell]
 exact k
end
section
open Go.RowKit
def Dc (b:Bool):Int:=if b then 1 else 0
def Js (c a:Int):Int:=if c=4 then wrap64 (-a) else if c=5 then Dc (a==0) else 0
def aA4 (a b:Int):Int:=if b=0 then 0 else wrap64 (a.tdiv b)
def aA3 (a b:Int):Int:=if b=0 then 0 else a.tmod b
def Jr (c a b:Int):Int:=
 if c=6 then wrap64 (a+b) else
 if c=7 then wrap64 (a-b) else
 if c=8 then wrap64 (a*b) else
 if c=9 then aA4 a b else
 if c=10 then aA3 a b else
 if c=11 then Dc (a==b) else
 if c=12 then Dc (a != b) else
 if c=13 then Dc (decide (a<b)) else
 if c=14 then Dc (decide (a≤b)) else
 if c=15 then Dc (a != 0&&b != 0) else
 if c=16 then Dc (a != 0||b != 0) else 0
def C4 (a b c:Int):Int:=if a=0 then c else b
end
section
open Go.RowKit
theorem iR (b:Bool) (w:World) :
 Calls prog 165 #[.bool b] w fun e w'=>e=.returned (.int .i64 (Dc b))/\w'=w:=by
 cases b
 all_goals
  go_enter Tryz.func165,Tryz.ntmps165
  go_wp2
  go_ret
  exact ⟨rfl,rfl⟩
theorem xJ (a b:Int) (w:World) :
 Calls prog 166 #[.int .i64 a,.int .i64 b] w fun e w'=>e=.returned (.int .i64 (wrap64 (a+b)))/\w'=w:=by
 go_enter Tryz.func166,Tryz.ntmps166
 go_wp2
 go_ret
 exact ⟨rfl,rfl⟩
theorem Wb (a b:Int) (w:World) :
 Calls prog 167 #[.int .i64 a,.int .i64 b] w fun e w'=>e=.returned (.int .i64 (wrap64 (a-b)))/\w'=w:=by
 go_enter Tryz.func167,Tryz.ntmps167
 go_wp2
 go_ret
 exact ⟨rfl,rfl⟩
theorem Xk (a b:Int) (w:World) :
 Calls prog 168 #[.int .i64 a,.int .i64 b] w fun e w'=>e=.returned (.int .i64 (wrap64 (a*b)))/\w'=w:=by
 go_enter Tryz.func168,Tryz.ntmps168
 go_wp2
 go_ret
 exact ⟨rfl,rfl⟩
theorem K9 (a b:Int) (w:World) :
 Calls prog 169 #[.int .i64 a,.int .i64 b] w fun e w'=>e=.returned (.int .i64 (aA4 a b))/\w'=w:=by
 by_cases h:b=0
 ·subst h
  go_enter Tryz.func169,Tryz.ntmps169
  go_wp2
  go_ret
  exact ⟨rfl,rfl⟩
 ·have e:aA4 a b=wrap64 (a.tdiv b):=if_neg h
  have E:Hid _:=e
  clear e
  have hb:(b==0)=false:=by simpa using h
  go_enter Tryz.func169,Tryz.ntmps169
  go_wp2
  go_ret
  exact ⟨by rw[E.out];rfl,rfl⟩
theorem Pu (a b:Int) (w:World) :
 Calls prog 170 #[.int .i64 a,.int .i64 b] w fun e w'=>e=.returned (.int .i64 (aA3 a b))/\w'=w:=by
 by_cases h:b=0
 ·subst h
  go_enter Tryz.func170,Tryz.ntmps170
  go_wp2
  go_ret
  exact ⟨rfl,rfl⟩
 ·have E:Hid (aA3 a b=a.tmod b):=if_neg h
  have hb:(b==0)=false:=by simpa using h
  go_enter Tryz.func170,Tryz.ntmps170
  go_wp2
  go_ret
  exact ⟨by rw[E.out];rfl,rfl⟩
theorem aF6 (a b:Int) (w:World) :
 Calls prog 171 #[.int .i64 a,.int .i64 b] w fun e w'=>e=.returned (.int .i64 (Dc (a==b)))/\w'=w:=by
 go_enter Tryz.func171,Tryz.ntmps171
 go_wp2_with (go_at_call 165;refine (iR _ _).mono ?_;rintro e w' ⟨rfl,rfl⟩)
 go_ret
 exact ⟨rfl,rfl⟩
theorem aC9 (a b:Int) (w:World) :
 Calls prog 172 #[.int .i64 a,.int .i64 b] w fun e w'=>e=.returned (.int .i64 (Dc (a != b)))/\w'=w:=by
 go_enter Tryz.func172,Tryz.ntmps172
 go_wp2_with (go_at_call 165;refine (iR _ _).mono ?_;rintro e w' ⟨rfl,rfl⟩)
 go_ret
 exact ⟨rfl,rfl⟩
theorem aD3 (a b:Int) (w:World) :
 Calls prog 173 #[.int .i64 a,.int .i64 b] w fun e w'=>e=.returned (.int .i64 (Dc (decide (a<b))))/\w'=w:=by
 go_enter Tryz.func173,Tryz.ntmps173
 go_wp2_with (go_at_call 165;refine (iR _ _).mono ?_;rintro e w' ⟨rfl,rfl⟩)
 go_ret
 exact ⟨rfl,rfl⟩
theorem aD8 (a b:Int) (w:World) :
 Calls prog 174 #[.int .i64 a,.int .i64 b] w fun e w'=>e=.returned (.int .i64 (Dc (decide (a≤b))))/\w'=w:=by
 go_enter Tryz.func174,Tryz.ntmps174
 go_wp2_with (go_at_call 165;refine (iR _ _).mono ?_;rintro e w' ⟨rfl,rfl⟩)
 go_ret
 exact ⟨rfl,rfl⟩
theorem tW (a b:Int) (w:World) :
 Calls prog 175 #[.int .i64 a,.int .i64 b] w fun e w'=>e=.returned (.int .i64 (Dc (a != 0&&b != 0)))/\w'=w:=by
 by_cases h:a=0
 ·subst h
  go_enter Tryz.func175,Tryz.ntmps175
  go_wp2_with (go_at_call 165;refine (iR _ _).mono ?_;rintro e w' ⟨rfl,rfl⟩)
  go_ret
  exact ⟨rfl,rfl⟩
 ·have c:(a != 0)=true:=by simpa using h
  go_enter Tryz.func175,Tryz.ntmps175
  go_wp2_with (go_at_call 165;refine (iR _ _).mono ?_;rintro e w' ⟨rfl,rfl⟩)
  go_ret
  exact ⟨by rw[c];rfl,rfl⟩
theorem pS (a b:Int) (w:World) :
 Calls prog 176 #[.int .i64 a,.int .i64 b] w fun e w'=>e=.returned (.int .i64 (Dc (a != 0||b != 0)))/\w'=w:=by
 by_cases h:a=0
 ·subst h
  go_enter Tryz.func176,Tryz.ntmps176
  go_wp2_with (go_at_call 165;refine (iR _ _).mono ?_;rintro e w' ⟨rfl,rfl⟩)
  go_ret
  exact ⟨rfl,rfl⟩
 ·have c:(a != 0)=true:=by simpa using h
  go_enter Tryz.func176,Tryz.ntmps176
  go_wp2_with (go_at_call 165;refine (iR _ _).mono ?_;rintro e w' ⟨rfl,rfl⟩)
  go_ret
  exact ⟨by rw[c];rfl,rfl⟩
theorem Hw (c a:Int) (w:World) :
 Calls prog 123 #[.int .i64 c,.int .i64 a] w fun e w'=>e=.returned (.int .i64 (Js c a))/\w'=w:=by
 by_cases h4:c=4
 ·subst h4
  go_enter Tryz.func123,Tryz.ntmps123
  go_wp2
  go_ret
  exact ⟨rfl,rfl⟩
 ·by_cases h5:c=5
  ·subst h5
   go_enter Tryz.func123,Tryz.ntmps123
   go_wp2_with (go_at_call 165;refine (iR _ _).mono ?_;rintro e w' ⟨rfl,rfl⟩)
   go_ret
   exact ⟨rfl,rfl⟩
  ·have E:Hid (Js c a=0):=by unfold Hid Js;rw[if_neg h4,if_neg h5]
   have b4:(c==4)=false:=by simpa using h4
   have b5:(c==5)=false:=by simpa using h5
   go_enter Tryz.func123,Tryz.ntmps123
   go_wp2
   go_ret
   exact ⟨by rw[E.out];rfl,rfl⟩
theorem Qg (a b c:Int) (w:World) :
 Calls prog 124 #[.int .i64 a,.int .i64 b,.int .i64 c] w fun e w'=>e=.returned (.int .i64 (C4 a b c))/\w'=w:=by
 by_cases h:a=0
 ·subst h
  go_enter Tryz.func124,Tryz.ntmps124
  go_wp2
  go_ret
  exact ⟨rfl,rfl⟩
 ·have E:Hid (C4 a b c=b):=by unfold Hid C4;rw[if_neg h]
  have b4:(a != 0)=true:=by simpa using h
  go_enter Tryz.func124,Tryz.ntmps124
  go_wp2
  go_ret
  exact ⟨by rw[E.out];rfl,rfl⟩
end
section
open Go.RowKit
theorem lW (w:World) (a b:Array Value) (t:TypeId):(w.alloc (.cells a t)).setRow w.heap.size b=w.alloc (.cells b t):=by
 unfold World.setRow World.alloc
 congr 1
 apply Array.ext
 ·simp
 ·intro k h c
  simp only[Array.getElem_modify,Array.getElem_push]
  split
  ·rename_i hk;subst hk;simp
  ·rename_i hk;have:k<w.heap.size:=by simp at c;omega
   simp[this]
def asked:Array Value:=#[.nilFunc,.nilFunc,.nilFunc,.nilFunc,.nilFunc,.nilFunc,.func (.func 166) #[] #[],.func (.func 167) #[] #[],.func (.func 168) #[] #[],.func (.func 169) #[] #[],.func (.func 170) #[] #[],.func (.func 171) #[] #[],.func (.func 172) #[] #[],.func (.func 173) #[] #[],.func (.func 174) #[] #[],.func (.func 175) #[] #[],.func (.func 176) #[] #[]]
theorem qY:(Array.all asked fun x=>x.oneCell')=true:=by kernel_rfl
theorem oN:(prog.info? 247).map (·.size)=some asked.size:=by kernel_rfl
theorem zN (w:World) (j:Nat) (v:Value) (h:asked[j]?=some v):(w.alloc (.cells asked 247)).cell? ⟨w.heap.size,j,none⟩=some v:=by
 have e:=(MapKept.heap_alloc w (.cells asked 247)).1
 simp only[World.cell?,e]
 exact h
theorem Xi (k:Nat) (w:World):(binOp BinOp.eql 246 (.func (.func k) #[] #[]) .nilFunc).run prog w=.ok (.bool false) w:=by kernel_rfl
theorem aF5 (w:World):(binOp BinOp.eql 246 .nilFunc .nilFunc).run prog w=.ok (.bool true) w:=by kernel_rfl
theorem iJ (c:Int) (k:Nat) (a b r:Int) (w:World) (u:0≤c) (s:c<17) (l:asked[c.toNat]?=some (.func (.func k) #[] #[]))
    (j:k=166\/k=167\/k=168\/k=169\/k=170\/k=171\/k=172\/k=173\/k=174\/k=175\/k=176)
    (h:∀w,Calls prog k #[.int .i64 a,.int .i64 b] w fun e w'=>e=.returned (.int .i64 r)/\w'=w) :
 Calls prog 125 #[.int .i64 c,.int .i64 a,.int .i64 b] w fun e w'=>e=.returned (.int .i64 r)/\w'=w.alloc (.cells asked 247):=by
 have n:=Xi
 have y:=zN w c.toNat _ l
 clear l
 rcases j with rfl|rfl|rfl|rfl|rfl|rfl|rfl|rfl|rfl|rfl|rfl
 all_goals
  go_enter Tryz.func125,Tryz.ntmps125
  go_wp2_with (first|(refine wpList_store_row rfl 247 _ _ rfl w.heap.size asked rfl rfl 247 _ (MapKept.heap_alloc w _).1 oN rfl qY ?_;rw[lW])|(refine (h _).mono ?_;rintro e w' ⟨rfl,rfl⟩))
  go_ret
  exact ⟨rfl,rfl⟩
theorem Vw (c:Int) (a b:Int) (w:World) (k:0≤c) (j:c<17) (h:asked[c.toNat]?=some .nilFunc) :
 Calls prog 125 #[.int .i64 c,.int .i64 a,.int .i64 b] w fun e w'=>e=.returned (.int .i64 0)/\w'=w.alloc (.cells asked 247):=by
 have n:=aF5
 have l:=zN w c.toNat _ h
 clear h
 go_enter Tryz.func125,Tryz.ntmps125
 go_wp2_with (refine wpList_store_row rfl 247 _ _ rfl w.heap.size asked rfl rfl 247 _ (MapKept.heap_alloc w _).1 oN rfl qY ?_;rw[lW])
 go_ret
 exact ⟨rfl,rfl⟩
theorem Vx (c:Int) (a b:Int) (w:World) (h:c<0) :
 Calls prog 125 #[.int .i64 c,.int .i64 a,.int .i64 b] w fun e w'=>e=.returned (.int .i64 0)/\w'=w.alloc (.cells asked 247):=by
 go_enter Tryz.func125,Tryz.ntmps125
 go_wp2_with (refine wpList_store_row rfl 247 _ _ rfl w.heap.size asked rfl rfl 247 _ (MapKept.heap_alloc w _).1 oN rfl qY ?_;rw[lW])
 go_ret
 exact ⟨rfl,rfl⟩
theorem Ot (c:Int) (a b:Int) (w:World) (h:17≤c) :
 Calls prog 125 #[.int .i64 c,.int .i64 a,.int .i64 b] w fun e w'=>e=.returned (.int .i64 0)/\w'=w.alloc (.cells asked 247):=by
 go_enter Tryz.func125,Tryz.ntmps125
 go_wp2_with (refine wpList_store_row rfl 247 _ _ rfl w.heap.size asked rfl rfl 247 _ (MapKept.heap_alloc w _).1 oN rfl qY ?_;rw[lW])
 go_ret
 exact ⟨rfl,rfl⟩
end
section
open Go.RowKit
theorem uJ {c:Int}(h:∀k:Int,6≤k->k≤16->c≠k) (a b:Int):Jr c a b=0:=by
 unfold Jr
 rw[if_neg (h 6 (by omega) (by omega)),if_neg (h 7 (by omega) (by omega)),if_neg (h 8 (by omega) (by omega)),if_neg (h 9 (by omega) (by omega)),if_neg (h 10 (by omega) (by omega)),if_neg (h 11 (by omega) (by omega)),if_neg (h 12 (by omega) (by omega)),if_neg (h 13 (by omega) (by omega)),if_neg (h 14 (by omega) (by omega)),if_neg (h 15 (by omega) (by omega)),if_neg (h 16 (by omega) (by omega))]
theorem Nq (c:Int) (k:0≤c) (j:c<6):asked[c.toNat]?=some .nilFunc:=by
 have h:c=0\/c=1\/c=2\/c=3\/c=4\/c=5:=by omega
 rcases h with rfl|rfl|rfl|rfl|rfl|rfl<;>rfl
theorem Hk (c a b:Int) (w:World) :
 Calls prog 125 #[.int .i64 c,.int .i64 a,.int .i64 b] w fun e w'=>e=.returned (.int .i64 (Jr c a b))/\w'=w.alloc (.cells asked 247):=by
 by_cases h0:c<0
 ·rw[uJ (fun k j _=>by omega)]
  exact Vx c a b w h0
 by_cases h1:17≤c
 ·rw[uJ (fun k _ j=>by omega)]
  exact Ot c a b w h1
 by_cases h2:c<6
 ·rw[uJ (fun k j _=>by omega)]
  exact Vw c a b w (by omega) (by omega) (Nq c (by omega) h2)
 have h:c=6\/c=7\/c=8\/c=9\/c=10\/c=11\/c=12\/c=13\/c=14\/c=15\/c=16:=by omega
 clear h0 h1 h2
 rcases h with rfl|rfl|rfl|rfl|rfl|rfl|rfl|rfl|rfl|rfl|rfl
 ·exact iJ 6 166 a b _ w (by omega) (by omega) rfl (by omega) (xJ a b)
 ·exact iJ 7 167 a b _ w (by omega) (by omega) rfl (by omega) (Wb a b)
 ·exact iJ 8 168 a b _ w (by omega) (by omega) rfl (by omega) (Xk a b)
 ·exact iJ 9 169 a b _ w (by omega) (by omega) rfl (by omega) (K9 a b)
 ·exact iJ 10 170 a b _ w (by omega) (by omega) rfl (by omega) (Pu a b)
 ·exact iJ 11 171 a b _ w (by omega) (by omega) rfl (by omega) (aF6 a b)
 ·exact iJ 12 172 a b _ w (by omega) (by omega) rfl (by omega) (aC9 a b)
 ·exact iJ 13 173 a b _ w (by omega) (by omega) rfl (by omega) (aD3 a b)
 ·exact iJ 14 174 a b _ w (by omega) (by omega) rfl (by omega) (aD8 a b)
 ·exact iJ 15 175 a b _ w (by omega) (by omega) rfl (by omega) (tW a b)
 ·exact iJ 16 176 a b _ w (by omega) (by omega) rfl (by omega) (pS a b)
end
section
open Go.RowKit Px
def C0:E->Prop
 | .nil=>True
 | .node _ _ a l r=>a.name.length≤maxLen/\C0 l/\C0 r
def lK (fb kb ck pb mb nm:Nat) (ns:List bE) (b:Bool) (w:World) (r:Ending) (w':World):Prop:=∃x,r=.returned (.int .i64 x)/\Hid (Fr w.heap.size [fb] w w'/\gK w' fb kb ck pb mb nm ns b)
def Zc (A:Nat->Prop) (fb kb ck pb mb nm:Nat) (ns:List bE) (e:E):Prop:=∀(w:World) (v:Value) (b:Bool),jR A w e v->gK w fb kb ck pb mb nm ns b->
 Calls prog 228 #[v,.agg #[lookV fb kb,lookV fb kb]] w (lK fb kb ck pb mb nm ns (b||dH ns e) w)
section
variable {A:Nat->Prop}{fb kb ck pb mb nm:Nat}{ns:List bE}
theorem tP {w W w':World}{X:List Nat}(h:Below w.heap.size w W) (k:Fr W.heap.size X W w'):Fr w.heap.size X w w':=(Fr.of_below h X).trans (k.mono h.size (fun _ hx _=>hx))
theorem Tt (w:World) (b:Bool) (h:gK w fb kb ck pb mb nm ns b):Calls prog 228 #[.pointer none,.agg #[lookV fb kb,lookV fb kb]] w (lK fb kb ck pb mb nm ns b w):=by
 have H:Hid _:=h
 clear h
 unfold lookV
 go_enter Tryz.func228,Tryz.ntmps228
 go_wp2_with fail
 go_ret
 exact ⟨_,rfl,Fr.of_below (aL w _) _,H.out.below (aL w _)⟩
theorem Ts (w:World) (b:Bool) {g:Nat}{n:Int}{S:Value}{j rv:Value}(c:w.heap[g]?=some (.cells #[.int .i64 1,.int .i64 n,S,j,rv] 307 (0,0))) (h:gK w fb kb ck pb mb nm ns b):Calls prog 228 #[.pointer (some ⟨g,0,none⟩),.agg #[lookV fb kb,lookV fb kb]] w (lK fb kb ck pb mb nm ns b w):=by
 have H:Hid _:=h
 have c0:=fun o=>aF (eB (o':=o) c) 0 (u:=.int .i64 1) rfl
 have c1:=fun o=>aF (eB (o':=o) c) 1 (u:=.int .i64 n) rfl
 clear h c
 unfold lookV
 go_enter Tryz.func228,Tryz.ntmps228
 go_wp2_with fail
 go_ret
 exact ⟨_,rfl,Fr.of_below (aL w _) _,H.out.below (aL w _)⟩
theorem Mv (w:World) (b:Bool) {g:Nat}{c n:Int}(hc:c=2\/c=3) {s:bE}(U:s.length≤maxLen) {Z rv:Value}(y:w.heap[g]?=some (.cells #[.int .i64 c,.int .i64 n,sv s,Z,rv] 307 (0,0))) (h:gK w fb kb ck pb mb nm ns b):Calls prog 228 #[.pointer (some ⟨g,0,none⟩),.agg #[lookV fb kb,lookV fb kb]] w (lK fb kb ck pb mb nm ns (b||(jT ns s).isNone) w):=by
 obtain ⟨O,r⟩:=gQx (Obj.cells #[lookV fb kb,lookV fb kb] 301)
 have k:=aL w O
 have j:=xI ((h.below k).below (w':=(w.alloc O).drew) ((Below.refl _ _).drew)) U
 have D:(w.alloc O).heap[w.heap.size]?=some (.cells #[lookV fb kb,lookV fb kb] 301 (0,0)):=by rw[aX,r]
 have I:=aF D 0 (u:=lookV fb kb) rfl
 have X:=aF D 1 (u:=lookV fb kb) rfl
 have c0:=aF (eB (o':=O) y) 0 (u:=.int .i64 c) rfl
 have c2:=aF (eB (o':=O) y) 2 (u:=sv s) rfl
 obtain ⟨Q,l⟩:=gQx ((b||(jT ns s).isNone))
 rw[<-l] at j ⊢
 have Y:Hid _:=k.drew
 generalize sv s=S at j c2
 unfold lookV at r j I X ⊢
 rw[r] at j I X c0 c2 Y
 clear h y l k D r U
 rcases hc with rfl|rfl
 all_goals
  go_enter Tryz.func228,Tryz.ntmps228
  go_wp2_with fail
  go_region_with (refine j.mono ?_;rintro e w' ⟨rfl,J⟩)
  all_goals
   go_wp2_with fail
   go_ret
   exact ⟨_,rfl,tP Y.out J.out.1,J.out.2⟩
end
end
section
open Go.RowKit Px
section
variable {A:Nat->Prop}{fb kb ck pb mb nm:Nat}{ns:List bE}
theorem Uj (hA:∀x,A x->x≠fb) {w w':World}(hF:Fr w.heap.size [fb] w w') {e:E}{v:Value}(h:jR A w e v):jR A w' e v:=
 h.carry (hF.keep fun x hx=>by simpa using hA x hx)
theorem lR {X:List Nat}{W wr w':World}(h:Fr W.heap.size X W wr) (k:Fr wr.heap.size X wr w'):Fr W.heap.size X W w':=h.trans (k.mono h.size (fun _ hx _=>hx))
theorem lM {w w':World}(h:Fr w.heap.size [fb] w w') {x:Nat}(hx:x≠fb) {o:Nat}{v:Value}(c:w.cell? ⟨x,o,none⟩=some v):w'.cell? ⟨x,o,none⟩=some v:=by
 rw[h.cell (p:=⟨x,o,none⟩) (aY5 w _ c) (by simpa using hx)];exact c
theorem Tr (hA:∀x,A x->x≠fb) (w:World) (b:Bool) {g:Nat}{c n:Int}(hc:c=4\/c=5) {S:Value}{l:E}{Y rv:Value}(D:A g) (hg:w.heap[g]?=some (.cells #[.int .i64 c,.int .i64 n,S,Y,rv] 307 (0,0))) (X:jR A w l Y) (ih:Zc A fb kb ck pb mb nm ns l) (h:gK w fb kb ck pb mb nm ns b):Calls prog 228 #[.pointer (some ⟨g,0,none⟩),.agg #[lookV fb kb,lookV fb kb]] w (lK fb kb ck pb mb nm ns (b||dH ns l) w):=by
 obtain ⟨O,Q⟩:=gQx (Obj.cells #[lookV fb kb,lookV fb kb] 301)
 have I:=aL w O
 have r:=I.drew
 have j:=ih (w.alloc O).drew Y b (X.carry fun x hx aa=>⟨hx,r.block x aa⟩) (h.below r)
 have ab:=aB h.found
 obtain ⟨p,rfl⟩:∃p,Y=.pointer p:=by
  cases l with
  | nil=>exact ⟨none,X⟩
  | node _ _ _ _ _=>obtain ⟨g',_,_,e,_⟩:=X;exact ⟨_,e⟩
 have k0:(w.alloc O).heap[w.heap.size]?=some (.cells #[lookV fb kb,lookV fb kb] 301 (0,0)):=by rw[aX,Q]
 have Z:=aF k0 0 (u:=lookV fb kb) rfl
 have e1:=aF k0 1 (u:=lookV fb kb) rfl
 have c0:=aF (eB (o':=O) hg) 0 (u:=.int .i64 c) rfl
 have c3:=aF (eB (o':=O) hg) 3 (u:=.pointer p) rfl
 have HP:Hid (∀k,Fr (w.alloc O).drew.heap.size [fb] (w.alloc O).drew k->k.cell? ⟨g,0,none⟩=some (.int .i64 c)/\k.cell? ⟨g,3,none⟩=some (.pointer p)/\k.cell? ⟨w.heap.size,0,none⟩=some (lookV fb kb)/\k.cell? ⟨w.heap.size,1,none⟩=some (lookV fb kb)):=fun k U=>
  ⟨lM U (hA g D) c0,lM U (hA g D) c3,lM U (by omega) Z,lM U (by omega) e1⟩
 obtain ⟨b',J⟩:∃b',b'=(b||dH ns l):=⟨_,rfl⟩
 rw[<-J] at j ⊢
 have HB:Hid _:=r
 have s:=Hw
 unfold lookV at Q j Z e1 HP ⊢
 unfold lK at j
 rw[Q] at j Z e1 c0 c3 HB HP
 clear h hg J I r k0 Q X ih ab
 rcases hc with rfl|rfl
 ·go_enter Tryz.func228,Tryz.ntmps228
  go_wp2_with fail
  go_region_held3 (fun k=>k.cell? ⟨g,0,none⟩=some (.int .i64 4)/\k.cell? ⟨g,3,none⟩=some (.pointer p)/\k.cell? ⟨w.heap.size,0,none⟩=some (.func (.func 227) #[] #[.pointer (some ⟨fb,0,none⟩),.pointer (some ⟨kb,0,none⟩)])/\k.cell? ⟨w.heap.size,1,none⟩=some (.func (.func 227) #[] #[.pointer (some ⟨fb,0,none⟩),.pointer (some ⟨kb,0,none⟩)])) (first|exact HP.out _ y.out.1|go_keep)
   (first
    | (go_at_call 228;refine j.mono ?_;rintro e w1 ⟨x,rfl,y⟩)
    | (go_at_call 123;refine (s _ _ _).mono ?_;rintro e w2 ⟨rfl,rfl⟩))
  all_goals
   go_wp2_with fail
   go_ret
   exact ⟨_,rfl,tP HB.out y.out.1,y.out.2⟩
 ·go_enter Tryz.func228,Tryz.ntmps228
  go_wp2_with fail
  go_region_held3 (fun k=>k.cell? ⟨g,0,none⟩=some (.int .i64 5)/\k.cell? ⟨g,3,none⟩=some (.pointer p)/\k.cell? ⟨w.heap.size,0,none⟩=some (.func (.func 227) #[] #[.pointer (some ⟨fb,0,none⟩),.pointer (some ⟨kb,0,none⟩)])/\k.cell? ⟨w.heap.size,1,none⟩=some (.func (.func 227) #[] #[.pointer (some ⟨fb,0,none⟩),.pointer (some ⟨kb,0,none⟩)])) (first|exact HP.out _ y.out.1|go_keep)
   (first
    | (go_at_call 228;refine j.mono ?_;rintro e w1 ⟨x,rfl,y⟩)
    | (go_at_call 123;refine (s _ _ _).mono ?_;rintro e w2 ⟨rfl,rfl⟩))
  all_goals
   go_wp2_with fail
   go_ret
   exact ⟨_,rfl,tP HB.out y.out.1,y.out.2⟩
theorem Tq (hA:∀x,A x->x≠fb) (w:World) (b:Bool) {g:Nat}{c n:Int}(hc:c≠1/\c≠2/\c≠3/\c≠4/\c≠5) {S:Value}{l r:E}{lv rv:Value}(J:A g) (hg:w.heap[g]?=some (.cells #[.int .i64 c,.int .i64 n,S,lv,rv] 307 (0,0))) (hl:jR A w l lv) (D:jR A w r rv) (af:Zc A fb kb ck pb mb nm ns l) (ah:Zc A fb kb ck pb mb nm ns r) (h:gK w fb kb ck pb mb nm ns b):Calls prog 228 #[.pointer (some ⟨g,0,none⟩),.agg #[lookV fb kb,lookV fb kb]] w (lK fb kb ck pb mb nm ns (b||(dH ns l||dH ns r)) w):=by
 obtain ⟨O,hO⟩:=gQx (Obj.cells #[lookV fb kb,lookV fb kb] 301)
 have ad:=aL w O
 have k:=ad.drew
 have j:=af (w.alloc O).drew lv b (hl.carry fun x hx I=>⟨hx,k.block x I⟩) (h.below k)
 have HR:Hid (jR A (w.alloc O).drew r rv/\_):=⟨D.carry fun x hx I=>⟨hx,k.block x I⟩,ah⟩
 have al:=aB h.found
 obtain ⟨p,rfl⟩:∃p,lv=.pointer p:=by
  cases l with
  | nil=>exact ⟨none,hl⟩
  | node _ _ _ _ _=>obtain ⟨g',_,_,e,_⟩:=hl;exact ⟨_,e⟩
 obtain ⟨q,rfl⟩:∃q,rv=.pointer q:=by
  cases r with
  | nil=>exact ⟨none,D⟩
  | node _ _ _ _ _=>obtain ⟨g',_,_,e,_⟩:=D;exact ⟨_,e⟩
 have k0:(w.alloc O).heap[w.heap.size]?=some (.cells #[lookV fb kb,lookV fb kb] 301 (0,0)):=by rw[aX,hO]
 have e0:=aF k0 0 (u:=lookV fb kb) rfl
 have e1:=aF k0 1 (u:=lookV fb kb) rfl
 have c0:=aF (eB (o':=O) hg) 0 (u:=.int .i64 c) rfl
 have c3:=aF (eB (o':=O) hg) 3 (u:=.pointer p) rfl
 have c4:=aF (eB (o':=O) hg) 4 (u:=.pointer q) rfl
 have HP:Hid (∀s,Fr (w.alloc O).drew.heap.size [fb] (w.alloc O).drew s->s.cell? ⟨g,0,none⟩=some (.int .i64 c)/\s.cell? ⟨g,4,none⟩=some (.pointer q)/\s.cell? ⟨w.heap.size,0,none⟩=some (lookV fb kb)/\s.cell? ⟨w.heap.size,1,none⟩=some (lookV fb kb)):=fun s hF=>
  ⟨lM hF (hA g J) c0,lM hF (hA g J) c4,lM hF (by omega) e0,lM hF (by omega) e1⟩
 obtain ⟨Z,X⟩:=gQx ((b||dH ns l))
 obtain ⟨b2,U⟩:=gQx ((b||(dH ns l||dH ns r)))
 have an:Hid (b2=(Z||dH ns r)):=by rw[Hid,U,X,Bool.or_assoc]
 rw[<-X] at j
 rw[<-U]
 have HB:Hid _:=k
 have am:Hid _:=hA
 obtain ⟨ab,ae,aj,aa,ag⟩:=hc
 have t1:(c==1)=false:=by simpa using ab
 have t2:(c==2)=false:=by simpa using ae
 have t3:(c==3)=false:=by simpa using aj
 have t4:(c==4)=false:=by simpa using aa
 have t5:(c==5)=false:=by simpa using ag
 have ai:=Hk
 unfold lK at j
 unfold lookV at hO j e0 e1 HP ⊢
 rw[hO] at j e0 e1 c0 c3 HB HP HR
 clear h hg X U ad k k0 hO hl D af ah al c4 hA J
 go_enter Tryz.func228,Tryz.ntmps228
 go_upto_region 13 with fail
 clear t1 t2 t3 t4 t5 ab ae aj aa ag
 go_cut [5] (fun s5 Y=>∃x,s5=.int .i64 x/\Hid (Fr (w.alloc (.cells #[.func (.func 227) #[] #[.pointer (some ⟨fb,0,none⟩),.pointer (some ⟨kb,0,none⟩)],.func (.func 227) #[] #[.pointer (some ⟨fb,0,none⟩),.pointer (some ⟨kb,0,none⟩)]] 301)).drew.heap.size [fb] (w.alloc (.cells #[.func (.func 227) #[] #[.pointer (some ⟨fb,0,none⟩),.pointer (some ⟨kb,0,none⟩)],.func (.func 227) #[] #[.pointer (some ⟨fb,0,none⟩),.pointer (some ⟨kb,0,none⟩)]] 301)).drew Y/\gK Y fb kb ck pb mb nm ns Z))
 case first=>
  go_region_with (refine j.mono ?_;rintro e s ⟨x,rfl,D⟩)
  all_goals
   go_wp2_with fail
   go_meet
   case rel=>exact ⟨x,rfl,D.out⟩
 case rest=>
  obtain ⟨x,rfl,hx⟩:=hcut
  clear j e0 e1 c0 c3
  obtain ⟨d0,d4,f0,f1⟩:=HP.out wc hx.out.1
  have Q:=hx.out.1.drew
  have j:=HR.out.2 wc.drew (.pointer q) Z (Uj am.out Q HR.out.1) (hx.out.2.below ((Below.refl _ _).drew))
  rw[<-an.out] at j
  unfold lK at j
  unfold lookV at j
  have ak:Hid _:=Q
  clear Q
  go_upto_region 14 with fail
  go_cut [6] (fun s6 Y=>∃x,s6=.int .i64 x/\Hid (Fr w.heap.size [fb] w Y/\gK Y fb kb ck pb mb nm ns b2/\Y.cell? ⟨g,0,none⟩=some (.int .i64 c)))
  case first=>
   go_region_with (refine j.mono ?_;rintro e s ⟨y,rfl,D⟩)
   all_goals
    go_wp2_with fail
    go_meet
    case rel=>
     have ac:=lR ak.out D.out.1
     exact ⟨y,rfl,tP HB.out ac,D.out.2,(HP.out _ ac).1⟩
  case rest=>
   obtain ⟨y,rfl,hy⟩:=hcut
   have g0:=hy.out.2.2
   clear j d0 d4 f0 f1
   go_wp2_with (refine (ai _ _ _ _).mono ?_;rintro e s ⟨rfl,rfl⟩)
   go_ret
   exact ⟨_,rfl,hy.out.1.alloc hy.out.1.size _,hy.out.2.1.below (aL _ _)⟩
theorem Tu (hA:∀x,A x->x≠fb):∀e,C0 e->Zc A fb kb ck pb mb nm ns e:=by
 intro e
 induction e with
 | nil=>
  intro _ w v b k h
  obtain rfl:v=.pointer none:=k
  rw[dH,Bool.or_false]
  exact Tt w b h
 | node b0 o a l r ihl ihr=>
  intro y w v b k h
  obtain ⟨D,s,n3⟩:=y
  obtain ⟨g,I,rv,rfl,c,j,n,u⟩:=k
  rw[dH]
  by_cases c1:a.code=1
  ·rw[if_pos c1,Bool.or_false]
   rw[c1] at j
   exact Ts w b j h
  ·rw[if_neg c1]
   by_cases c2:a.code=2\/a.code=3
   ·rw[if_pos c2]
    exact Mv w b (by omega) D j h
   ·rw[if_neg c2]
    by_cases c4:a.code=4\/a.code=5
    ·rw[if_pos c4]
     exact Tr hA w b (by omega) c j n (ihl s) h
    ·rw[if_neg c4]
     exact Tq hA w b ⟨by omega,by omega,by omega,by omega,by omega⟩ c j n u (ihl s) (ihr n3) h
end
end
section
open Go.RowKit Px
structure kL (w:World) (ck pb mb nm gv:Nat) (adv:Option Addr) (capv:Nat) (vs:List bQ) (n:Nat):Prop where
 box:w.heap[ck]?=some (.cells #[.slice adv vs.length capv,.func (.func 112) #[] #[.pointer (some ⟨pb,0,none⟩)],.int .i64 (n:Int)] 129 (0,0))
 hpb:w.heap[pb]?=some (.cells #[.map (some mb)] 177 (0,0))
 hmb:iD w mb nm (jT (cG vs))
 hv:0<vs.length->adv=some ⟨gv,0,none⟩/\gv<w.heap.size
 hk:∀i d,vs[i]?=some d->w.cell? ⟨gv,i*3,none⟩=some (.int .i64 (d.kind:Int))
 ne:ck≠pb/\ck≠mb/\(0<vs.length->ck≠gv)
section
variable {ck pb mb nm gv:Nat}{adv:Option Addr}{capv:Nat}{vs:List bQ}
theorem kL.below {w w':World}{n:Nat}(h:kL w ck pb mb nm gv adv capv vs n) (hb:Below w.heap.size w w'):kL w' ck pb mb nm gv adv capv vs n:=
 ⟨aD hb h.box,aD hb h.hpb,h.hmb.below hb,fun hp=>⟨(h.hv hp).1,aO5 (h.hv hp).2 hb.size⟩,fun i d hi=>aN hb (h.hk i d hi),h.ne⟩
theorem pI {w:World}{n:Nat}(h:kL w ck pb mb nm gv adv capv vs n) {e:E}{v:Value}{A:Nat->Prop}(y:jR A w e v) (X:C0 e) :
 Calls prog 199 #[.pointer (some ⟨ck,0,none⟩),v] w fun r w'=>r=.returned (.bool (dH (cG vs) e))/\Below w.heap.size w w':=by
 have U:∀(fn:Fn) (first cap:Array Value) (w:World),(Instr.makeFunc fn first cap).run prog w=.ok (.func fn first cap) w:=fun _ _ _ _=>rfl
 obtain ⟨p,rfl⟩:∃p,v=.pointer p:=by
  cases e with
  | nil=>exact ⟨none,y⟩
  | node _ _ _ _ _=>obtain ⟨g',_,_,e,_⟩:=y;exact ⟨_,e⟩
 have s:jR (· < w.heap.size) w e (.pointer p):=y.carry fun x _ k=>⟨k,rfl⟩
 obtain ⟨W,l⟩:=gQx ((w.alloc (.cells #[.pointer (some ⟨ck,0,none⟩)] 178)).alloc (.cells #[.bool false] 4))
 have j:Below w.heap.size w W:=by rw[l];exact ((Below.refl _ _).alloc (aO4 _) _).alloc (by simp) _
 have O:W.heap[w.heap.size]?=some (.cells #[.pointer (some ⟨ck,0,none⟩)] 178 (0,0)):=by rw[l];exact eB (aX w _)
 have I:W.heap[w.heap.size+1]?=some (.cells #[.bool false] 4 (0,0)):=by
  rw[l]
  have e:w.heap.size+1=(w.alloc (.cells #[.pointer (some ⟨ck,0,none⟩)] 178)).heap.size:=by simp
  rw[e];exact aX _ _
 have Y:=aB h.box
 have l2:=aB h.hpb
 have Z:=h.hmb.lt
 have Q:gK W (w.heap.size+1) w.heap.size ck pb mb nm (cG vs) false:=⟨I,aF O 0 rfl,aN j (aF h.box 1 rfl),aD j h.hpb,h.hmb.below j,by omega⟩
 have c:=Tu (A:=(· < w.heap.size)) (fb:=w.heap.size+1) (kb:=w.heap.size) (fun x hx e=>by have:x<w.heap.size:=hx;omega) e X W (.pointer p) false (s.carry fun x hx k=>⟨hx,j.block x hx⟩) Q
 rw[Bool.false_or] at c
 unfold lK at c
 unfold lookV at c
 have D:Hid _:=j
 rw[l] at c D
 clear h y s l j O I Y l2 Z Q
 go_enter Tryz.func199,Tryz.ntmps199
 go_wp2_with (refine c.mono ?_;rintro e w' ⟨x,rfl,J⟩;have cf:=aF J.out.2.found 0 (u:=.bool (dH (cG vs) e)) rfl)
 go_ret
 refine ⟨rfl,D.out.trans ?_⟩
 exact (J.out.1.mono D.out.size (X':=[]) (fun x hx hl=>by simp at hx;omega)).below
end
end
section
open Go.RowKit Px
def mD (l:List iY):Prop:=∀a∈l,a.name.length≤maxLen/\C0 a.e
theorem yE {vs:List bQ}{l:List iY}(k:Nat) (c:∀j a,j<k->l[j]?=some a->nD vs a=0):cY vs l=cY vs (l.drop k):=by
 induction k generalizing l with
 | zero=>rfl
 | succ k ih=>
  cases l with
  | nil=>rfl
  | cons a r=>
   rw[cY,if_neg (by simpa using c 0 a (by omega) rfl),List.drop_succ_cons]
   exact ih fun j n s h=>c (j+1) n (by omega) (by simpa using h)
theorem yF {vs:List bQ}{l:List iY}{k:Nat}{a:iY}(r:∀j a,j<k->l[j]?=some a->nD vs a=0) (n:l[k]?=some a) (c:nD vs a≠0):cY vs l=nD vs a:=by
 rw[yE k r]
 have:l.drop k=a::l.drop (k+1):=by
  obtain ⟨h,rfl⟩:=aO7.1 n
  exact aP4 h
 rw[this,cY,if_pos c]
theorem Ko {vs:List bQ}{l:List iY}(c:∀j a,j<l.length->l[j]?=some a->nD vs a=0):cY vs l=0:=by
 rw[yE l.length c,aR4];rfl
theorem Mx {vs:List bQ}{s:bE}{t:Nat}(h:jT (cG vs) s=some t):∃d,vs[t]?=some d/\Oq vs s=d.kind:=by
 have c:=(tQ h).1
 rw[cG,List.length_map] at c
 refine ⟨vs[t],aN4 c,?_⟩
 unfold Oq eG
 rw[h]
 simp[List.getD_eq_getElem?_getD,List.getElem?_eq_getElem c]
section
variable {ck pb mb nm gv:Nat}{adv:Option Addr}{capv:Nat}{vs:List bQ}
theorem Wh {w:World}{n:Nat}(h:kL w ck pb mb nm gv adv capv vs n) {l:List iY}{ad:Option Addr}{g N cap:Nat}{A:Nat->Prop}(hN:Hid (N=l.length)) (hm:N≤maxLen) (ha:0<N->ad=some ⟨g,0,none⟩/\g<w.heap.size) (ac:mD l)
    (R:Hid (∀(i:Nat) (a:iY),l[i]?=some a->∃p,w.cell? ⟨g,i*2,none⟩=some (sv a.name)/\w.cell? ⟨g,i*2+1,none⟩=some (.pointer p)/\jR A w a.e (.pointer p))) :
 Calls prog 198 #[.pointer (some ⟨ck,0,none⟩),.slice ad N cap] w fun r w'=>r=.returned (.int .i64 ((cY vs l:Nat):Int))/\Below w.heap.size w w':=by
 have ak:(N:Int)≤9223372036854775807:=by unfold maxLen at hm;omega
 have HC:Hid (kL w ck pb mb nm gv adv capv vs n):=h
 have HA:Hid (0<N->ad=some ⟨g,0,none⟩/\g<w.heap.size):=ha
 have ai:Hid (mD l):=ac
 clear h ha ac hm
 go_enter Tryz.func198,Tryz.ntmps198
 go_wp2_with fail
 go_loopg [10] N (fun f i wr=>∃k:Nat,f=N-k/\k≤N/\i=.int .i64 (k:Int)/\Hid (Below w.heap.size w wr/\∀j a,j<k->l[j]?=some a->nD vs a=0))
 case atStart=>exact ⟨0,by omega,by omega,rfl,Below.refl _ _,fun j a hj=>absurd hj (by omega)⟩
 case round=>
  obtain ⟨k,rfl,hk,rfl,hr⟩:=hrel
  by_cases U:k<N
  ·obtain ⟨a,c⟩:∃a,Hid (l[k]?=some a):=⟨l[k]'(by rw[<-hN.out];exact U),by rw[Hid,aN4]⟩
   obtain ⟨p,x0,x1,hp⟩:=R.out k a c.out
   have af:=ixS ad g N cap k U (fun h=>(HA.out h).1)
   have y0:=aN hr.out.1 x0
   have y1:=aN hr.out.1 x1
   obtain ⟨LO,Y⟩:=gQx (Obj.cells #[sv a.name,.pointer p] 297)
   have O:Below w.heap.size w (wr.alloc LO):=aQ hr.out.1 (aL wr LO)
   have hC:=HC.out.below O.drew
   have X:Hid (kL (wr.alloc LO).drew ck pb mb nm gv adv capv vs n):=hC
   obtain ⟨n1,n2⟩:=ai.out a (aP1 c.out)
   have hf:=nG (s:=a.name) hC.hpb hC.hmb n1
   have y:=pI hC (hp.carry fun x hx U=>⟨hx,O.drew.block x U⟩) n2
   have c1:(wr.alloc LO).drew.cell? ⟨ck,1,none⟩=some (.func (.func 112) #[] #[.pointer (some ⟨pb,0,none⟩)]):=aF hC.box 1 rfl
   have D:Hid (Below w.heap.size w (wr.alloc LO).drew):=O.drew
   have k0:(wr.alloc LO).heap[wr.heap.size]?=some (.cells #[sv a.name,.pointer p] 297 (0,0)):=by rw[aX,Y]
   have l0:=aF k0 0 (u:=sv a.name) rfl
   have l1:=aF k0 1 (u:=.pointer p) rfl
   obtain ⟨S,hS⟩:∃S,sv a.name=.string S:=⟨_,rfl⟩
   rw[hS] at y0 hf Y l0
   obtain ⟨b,hb⟩:∃b,Hid (dH (cG vs) a.e=b):=⟨_,rfl⟩
   rw[hb.out] at y
   have HZ:Hid (∀j a,j<k->l[j]?=some a->nD vs a=0):=hr.out.2
   rw[Y] at D hf y X c1 l0 l1
   clear O hC x0 x1 hp n1 n2 Y hS hr k0
   obtain ⟨I,hI⟩:∃I,Hid (I=eG (cG vs) a.name):=⟨_,rfl⟩
   rw[<-hI.out] at hf
   go_upto_region 4 with fail
   go_cut [7] (fun s7 wx=>Hid (s7=.int .i64 I/\wx=(wr.alloc (.cells #[.string S,.pointer p] 297)).drew))
   case first=>
    go_region_with (refine hf.mono ?_;rintro e w' ⟨rfl,rfl⟩)
    all_goals
     go_wp2_with fail
     go_meet
     case rel=>exact ⟨rfl,rfl⟩
   case rest=>
    obtain ⟨ah,ag⟩:=hcut.out
    subst ah
    subst ag
    clear hcut y0 y1 af hf
    cases hfn:jT (cG vs) a.name with
    | none=>
     have e:I=-1:=by rw[hI.out];unfold eG;rw[hfn]
     subst e
     have Z:Hid (cY vs l=5):=by
      have:nD vs a=5:=by unfold nD;rw[hfn];rfl
      rw[Hid,yF HZ.out c.out (by rw[this];simp),this]
     clear hfn y
     go_wp2_with fail
     go_ret
     exact ⟨by rw[Z.out];rfl,D.out⟩
    | some t=>
     have e:I=(t:Int):=by rw[hI.out];unfold eG;rw[hfn]
     subst e
     have an:¬(t:Int)<0:=by omega
     cases b with
     | true=>
      have Z:Hid (cY vs l=5):=by
       have:nD vs a=5:=by unfold nD;rw[hfn,hb.out];rfl
       rw[Hid,yF HZ.out c.out (by rw[this];simp),this]
      clear hfn
      go_wp2_with (refine y.mono ?_;rintro e w' ⟨rfl,J⟩)
      go_ret
      exact ⟨by rw[Z.out];rfl,aQ D.out J⟩
     | false=>
      obtain ⟨d,hd,Q⟩:=Mx hfn
      have aa:=(aO7.1 hd).1
      have ab:Hid (∀w',Below (wr.alloc (.cells #[.string S,.pointer p] 297)).drew.heap.size (wr.alloc (.cells #[.string S,.pointer p] 297)).drew w'->w'.cell? ⟨ck,0,none⟩=some (.slice adv vs.length capv)/\w'.cell? ⟨gv,t*3,none⟩=some (.int .i64 (d.kind:Int))):=fun w' J=>
       ⟨aN J (aF X.out.box 0 rfl),aN J (X.out.hk t d hd)⟩
      have aj:=ixV adv gv vs.length capv t aa (fun h=>(X.out.hv h).1)
      by_cases hk1:d.kind=1
      ·have Z:Hid (cY vs l=1):=by
        have:nD vs a=1:=by unfold nD;rw[hfn,hb.out,Q,hk1];rfl
        rw[Hid,yF HZ.out c.out (by rw[this];simp),this]
       rw[hk1] at ab
       clear hfn hd Q aa hk1
       go_wp2_with (refine y.mono ?_;rintro e w' ⟨rfl,J⟩;obtain ⟨d0,d1⟩:=ab.out w' J)
       go_ret
       exact ⟨by rw[Z.out];rfl,aQ D.out J⟩
      ·have Z:Hid (nD vs a=0):=by
        unfold nD;rw[hfn,hb.out,Q,if_neg hk1];rfl
       have am:¬((d.kind:Nat):Int)=1:=by omega
       have al:(((d.kind:Nat):Int)==1)=false:=by simp;omega
       clear hfn hd Q aa hk1
       go_wp2_with (refine y.mono ?_;rintro e w' ⟨rfl,J⟩;obtain ⟨d0,d1⟩:=ab.out w' J)
       go_roundg (N-(k+1))
       case measure=>omega
       case rel=>
        refine ⟨k+1,rfl,by omega,by go_num,aQ D.out J,fun j a' hj ae=>?_⟩
        by_cases e:j=k
        ·subst e
         have:=c.out
         rw[ae] at this
         injection this with this
         subst this
         exact Z.out
        ·exact HZ.out j a' (by omega) ae
  ·obtain rfl:k=N:=by omega
   have Z:Hid (cY vs l=0):=Ko (by rw[<-hN.out];exact hr.out.2)
   have HB:Hid (Below w.heap.size w wr):=hr.out.1
   clear hr
   go_wp2_with fail
   go_ret
   exact ⟨by rw[Z.out];rfl,HB.out⟩
end
end
section
open Go.RowKit Px
theorem jR.pt' {A:Nat->Prop}{w:World}{e:E}{v:Value}(h:jR A w e v):∃u,v=.pointer u:=by
 cases e with
 | nil=>exact ⟨none,h⟩
 | node _ _ _ _ _=>obtain ⟨c,_,_,e,_⟩:=h;exact ⟨_,e⟩
theorem cJ.open {A:Nat->Prop}{w:World}{l:List iY}{v:Value}(h:cJ A w l v) :
    ∃ad g cap,v=.slice ad l.length cap/\l.length≤maxLen/\(0<l.length->ad=some ⟨g,0,none⟩/\g<w.heap.size)/\∀(i:Nat) (a:iY),l[i]?=some a->∃p,w.cell? ⟨g,i*2,none⟩=some (sv a.name)/\w.cell? ⟨g,i*2+1,none⟩=some (.pointer p)/\jR A w a.e (.pointer p):=by
 obtain ⟨O,s,y⟩:=h
 obtain ⟨ad,g,cap,J,r,n,I⟩:=wU.open (k:=2) (fun a c ⟨p,hc,_⟩=>by rw[hc];rfl) s y
 refine ⟨ad,g,cap,J,r,fun j=>⟨(n j).1,(n j).2.2⟩,fun i a D=>?_⟩
 obtain ⟨c,⟨p,rfl,j⟩,hx⟩:=I i a D
 obtain ⟨u,rfl⟩:=j.pt'
 exact ⟨u,hx 0 _ rfl,hx 1 _ rfl,j⟩
section
variable {ck pb mb nm gv:Nat}{adv:Option Addr}{capv:Nat}{vs:List bQ}
theorem oI {w:World}{n:Nat}(h:kL w ck pb mb nm gv adv capv vs n) {l:List iY}{v:Value}{A:Nat->Prop}(s:cJ A w l v) (c:mD l) :
 Calls prog 198 #[.pointer (some ⟨ck,0,none⟩),v] w fun r w'=>r=.returned (.int .i64 ((cY vs l:Nat):Int))/\Below w.heap.size w w':=by
 obtain ⟨y,g,cap,rfl,j,u,k⟩:=s.open
 exact Wh h rfl j u c k
def Va (y:Wy):Prop:=y.to.length≤maxLen/\C0 y.cond/\mD y.sets
theorem Nf {w:World}{n:Nat}(h:kL w ck pb mb nm gv adv capv vs n) {y:Wy}{ns:List bE}{gy o J U ad:Nat}{p:Option Addr}{q:Value}{A:Nat->Prop}(inside:Bool)
    (c0:w.cell? ⟨gy,o,none⟩=some (.int .i64 (y.kind:Int))) (c1:w.cell? ⟨gy,o+1,none⟩=some (.bool y.now)) (c2:w.cell? ⟨gy,o+2,none⟩=some (.pointer p)) (c3:w.cell? ⟨gy,o+3,none⟩=some (.int .i64 (y.times:Int))) (c4:w.cell? ⟨gy,o+4,none⟩=some q) (c5:w.cell? ⟨gy,o+5,none⟩=some (sv y.to))
    (he:jR A w y.cond (.pointer p)) (hs:cJ A w y.sets q) (hN:Va y)
    (Q:w.heap[J]?=some (.cells #[.map (some U)] 177 (0,0))) (O:iD w U ad (jT ns)) :
 Calls prog 200 #[.pointer (some ⟨ck,0,none⟩),.pointer (some ⟨gy,o,none⟩),.bool inside,.func (.func 112) #[] #[.pointer (some ⟨J,0,none⟩)]] w fun r w'=>r=.returned (.int .i64 ((nO vs ns inside y:Nat):Int))/\Below w.heap.size w w':=by
 obtain ⟨n1,n2,n3⟩:=hN
 have I:=nG (s:=y.to) Q O n1
 have l:=pI h he n2
 have X:Hid (∀w',Below w.heap.size w w'->Calls prog 198 #[.pointer (some ⟨ck,0,none⟩),q] w' fun r Y=>r=.returned (.int .i64 ((cY vs y.sets:Nat):Int))/\Below w'.heap.size w' Y):=fun w' hb=>
  oI (h.below hb) (hs.carry fun x hx ab=>⟨hx,hb.block x ab⟩) n3
 have af:Hid (∀w',Below w.heap.size w w'->w'.cell? ⟨gy,o+4,none⟩=some q):=fun w' hb=>aN hb c4
 clear h he hs Q O n1 n2 n3 c4
 obtain ⟨S,hS⟩:∃S,sv y.to=S:=⟨_,rfl⟩
 rw[hS] at c5 I
 clear hS
 obtain ⟨B,hB⟩:∃B,Hid ((((decide (y.kind=2) && !inside)||(y.now&&decide (1<y.times))))=B):=⟨_,rfl⟩
 obtain ⟨Z,hZ⟩:∃Z,Hid (dH (cG vs) y.cond=Z):=⟨_,rfl⟩
 rw[hZ.out] at l
 cases hfn:jT ns y.to with
 | none=>
  have e:eG ns y.to=-1:=by unfold eG;rw[hfn]
  rw[e] at I
  have k:Hid (nO vs ns inside y=7):=by unfold Hid nO;rw[hfn];rfl
  clear e hfn l
  go_enter Tryz.func200,Tryz.ntmps200
  go_wp2_with (refine I.mono ?_;rintro e w' ⟨rfl,rfl⟩)
  go_ret
  exact ⟨by rw[k.out];rfl,Below.refl _ _⟩
 | some t=>
  have e:eG ns y.to=(t:Int):=by unfold eG;rw[hfn]
  rw[e] at I
  have ae:¬(t:Int)<0:=by omega
  have k:Hid (nO vs ns inside y=if B then 6 else if Z then 5 else cY vs y.sets):=by unfold Hid nO;rw[hfn,hB.out,hZ.out];rfl
  clear e hfn
  go_enter Tryz.func200,Tryz.ntmps200
  go_upto_region 3 with (refine I.mono ?_;rintro e w' ⟨rfl,aa⟩;obtain rfl:=aa.symm)
  clear I ae
  go_cut [37] (fun s wx=>Hid (s=.bool B/\wx=w))
  case first=>
   obtain ⟨nw,j⟩:∃nw,Hid (y.now=nw):=⟨_,rfl⟩
   rw[j.out] at c1
   by_cases hk:y.kind=2
   ·rw[hk] at c0
    cases inside with
    | false=>
     have c:B=true:=by rw[<-hB.out,hk];rfl
     subst c
     go_wp2_with fail
     go_meet
     case rel=>exact ⟨rfl,rfl⟩
    | true=>
     cases nw with
     | false=>
      have c:B=false:=by rw[<-hB.out,hk,j.out];rfl
      subst c
      go_wp2_with fail
      go_meet
      case rel=>exact ⟨rfl,rfl⟩
     | true=>
      by_cases ht:1<y.times
      ·have c:B=true:=by rw[<-hB.out,hk,j.out];simp[ht]
       subst c
       have u:(1:Int)<(y.times:Int):=by omega
       clear ht
       go_wp2_with fail
       go_meet
       case rel=>exact ⟨rfl,rfl⟩
      ·have c:B=false:=by rw[<-hB.out,hk,j.out];simp[ht]
       subst c
       have u:¬(1:Int)<(y.times:Int):=by omega
       clear ht
       go_wp2_with fail
       go_meet
       case rel=>exact ⟨rfl,rfl⟩
   ·have ag:¬(y.kind:Int)=2:=by omega
    have ai:((y.kind:Int)==2)=false:=by simp;omega
    cases nw with
    | false=>
     have c:B=false:=by rw[<-hB.out,j.out];simp[hk]
     subst c
     go_wp2_with fail
     go_meet
     case rel=>exact ⟨rfl,rfl⟩
    | true=>
     by_cases ht:1<y.times
     ·have c:B=true:=by rw[<-hB.out,j.out];simp[ht]
      subst c
      have u:(1:Int)<(y.times:Int):=by omega
      clear ht
      go_wp2_with fail
      go_meet
      case rel=>exact ⟨rfl,rfl⟩
     ·have c:B=false:=by rw[<-hB.out,j.out];simp[ht,hk]
      subst c
      have u:¬(1:Int)<(y.times:Int):=by omega
      clear ht
      go_wp2_with fail
      go_meet
      case rel=>exact ⟨rfl,rfl⟩
  case rest=>
   obtain ⟨hs,D⟩:=hcut.out
   subst hs
   subst D
   clear hcut c0 c1 c3 c5 hB hZ
   cases B with
   | true=>
    rw[if_pos rfl] at k
    go_wp2_with fail
    go_ret
    exact ⟨by rw[k.out];rfl,Below.refl _ _⟩
   | false=>
    rw[if_neg (by simp)] at k
    cases Z with
    | true=>
     rw[if_pos rfl] at k
     go_wp2_with (refine l.mono ?_;rintro e w' ⟨rfl,D⟩)
     go_ret
     exact ⟨by rw[k.out];rfl,D⟩
    | false=>
     rw[if_neg (by simp)] at k
     obtain ⟨M,hM⟩:∃M,Hid (cY vs y.sets=M):=⟨_,rfl⟩
     rw[hM.out] at k X
     go_wp2_with (first
      | (go_at_call 199;refine l.mono ?_;rintro e w' ⟨rfl,D⟩;have ah:=af.out w' D)
      | (go_at_call 198;refine (X.out w' D).mono ?_;rintro e Y ⟨rfl,ac⟩))
     go_ret
     exact ⟨by rw[k.out];rfl,aQ D ac⟩
end
end
end Go.Proofs.YthieaobjdpfcoaaGreatDoor
