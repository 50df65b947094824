import Derived.Test.YtcdbhoknhnimcaaGreatDoorTRead
import Derived.Test.YtcdbhoknhnimcaaGreatDoorTCr
import Derived.Deep.LoopGhost
set_option maxRecDepth 100000
set_option maxHeartbeats 2000000
namespace Go.Proofs.YtcdbhoknhnimcaaGreatDoor
open Go.RowKit Px
theorem Ml (a b:ByteArray):(a.toList==b.toList)=decide (bs a=bs b):=by
 rw[ByteArray.toList_eq,ByteArray.toList_eq,Bool.eq_iff_iff]
 simp only[beq_iff_eq,decide_eq_true_eq]
theorem rT (a b:ByteArray) (h:bs a=bs b):(a.toList==b.toList)=true:=by rw[Ml];exact decide_eq_true h
theorem wM (a b:ByteArray) (h:bs a≠bs b):(a.toList==b.toList)=false:=by rw[Ml];exact decide_eq_false h
def pJ (w:World) (b:Nat) (cs:List Value):Prop:=∀i v,cs[i]?=some v->w.cell? ⟨b,i,none⟩=some v
def kindsL:List bB:=[[],Pd,Ft,aE2]
def leadsL:List bB:=[kGo,Pf,Xj]
def nY (p:bB×Nat):List Value:=[sv p.1,.int .i64 p.2]
def aheadL:List (bB×Nat):=[(tQ,4),(aE3,5)]
def Yh (l:List (bB×Nat)):List (bB×Nat):=(l++[([],0),([],0),([],0)]).take 4
def betweenL:List (List (bB×Nat)):=signs.map Yh
structure qJ (w:World):Prop where
 words:pJ w 2 (words.map sv)
 kinds:pJ w 1 (kindsL.map sv)
 leads:pJ w 3 (leadsL.map sv)
 ahead:pJ w 7 (aheadL.flatMap nY)
 between:pJ w 6 (betweenL.flatMap (·.flatMap nY))
theorem pJ.keep {w w':World}{b:Nat}{cs:List Value}(h:pJ w b cs) (hb:w'.heap[b]?=w.heap[b]?):pJ w' b cs:=fun i v hv=>by
 rw[World.cell?_of_block (w:=w) (a:=⟨b,i,none⟩) hb];exact h i v hv
theorem qJ.keep {w w':World}(h:qJ w) (hb:∀b,b<11->w'.heap[b]?=w.heap[b]?):qJ w':=
 ⟨h.words.keep (hb 2 (by omega)),h.kinds.keep (hb 1 (by omega)),h.leads.keep (hb 3 (by omega)),h.ahead.keep (hb 7 (by omega)),h.between.keep (hb 6 (by omega))⟩
theorem xJ (T n:Nat) (w:World) (b o:Nat) (cs:List Value) (hagg:(isAgg T).run Tryz.prog w=.ok true w) (hsz:(sizeOf T).run Tryz.prog w=.ok n w) (hn:cs.length=n)
    (h:∀j v,cs[j]?=some v->w.cell? ⟨b,o+j,none⟩=some v):(loadVar T ⟨b,o,none⟩).run Tryz.prog w=.ok (.agg cs.toArray) w:=by
 have hl:=run_loadCells_list (P:=Tryz.prog) w ⟨b,o,none⟩ cs (fun j v hv=>by
  have hadd:(⟨b,o,none⟩:Addr).add j=⟨b,o+j,none⟩:=by unfold Addr.add;split<;>simp_all
  rw[hadd];exact h j v hv)
 rw[hn] at hl
 unfold loadVar
 rw[Sem.run_bind,hagg]
 simp only[Result.andThen,if_true,Sem.run_bind,hsz,hl]
 rfl
theorem sB (T n:Nat) (w:World) (b:Nat) (cs:List Value) (hagg:(isAgg T).run Tryz.prog w=.ok true w) (hsz:(sizeOf T).run Tryz.prog w=.ok n w) (hn:cs.length=n) (h:pJ w b cs):(loadVar T ⟨b,0,none⟩).run Tryz.prog w=.ok (.agg cs.toArray) w:=
 xJ T n w b 0 cs hagg hsz hn (fun j v hv=>by rw[Nat.zero_add];exact h j v hv)
def WV:Array Value:=(words.map sv).toArray
theorem wx0 (w:World):(Instr.index 250 (.agg WV) (.int .i64 0)).run Tryz.prog w=.ok (sv (words.getD 0 [])) w:=by kernel_rfl
theorem wx1 (w:World):(Instr.index 250 (.agg WV) (.int .i64 1)).run Tryz.prog w=.ok (sv (words.getD 1 [])) w:=by kernel_rfl
theorem wx2 (w:World):(Instr.index 250 (.agg WV) (.int .i64 2)).run Tryz.prog w=.ok (sv (words.getD 2 [])) w:=by kernel_rfl
theorem wx3 (w:World):(Instr.index 250 (.agg WV) (.int .i64 3)).run Tryz.prog w=.ok (sv (words.getD 3 [])) w:=by kernel_rfl
theorem wx4 (w:World):(Instr.index 250 (.agg WV) (.int .i64 4)).run Tryz.prog w=.ok (sv (words.getD 4 [])) w:=by kernel_rfl
theorem wx5 (w:World):(Instr.index 250 (.agg WV) (.int .i64 5)).run Tryz.prog w=.ok (sv (words.getD 5 [])) w:=by kernel_rfl
theorem wx6 (w:World):(Instr.index 250 (.agg WV) (.int .i64 6)).run Tryz.prog w=.ok (sv (words.getD 6 [])) w:=by kernel_rfl
theorem wx7 (w:World):(Instr.index 250 (.agg WV) (.int .i64 7)).run Tryz.prog w=.ok (sv (words.getD 7 [])) w:=by kernel_rfl
theorem wx8 (w:World):(Instr.index 250 (.agg WV) (.int .i64 8)).run Tryz.prog w=.ok (sv (words.getD 8 [])) w:=by kernel_rfl
theorem wx9 (w:World):(Instr.index 250 (.agg WV) (.int .i64 9)).run Tryz.prog w=.ok (sv (words.getD 9 [])) w:=by kernel_rfl
theorem aK0 (w:World):(Instr.index 250 (.agg WV) (.int .i64 10)).run Tryz.prog w=.ok (sv (words.getD 10 [])) w:=by kernel_rfl
theorem aJ9 (w:World):(Instr.index 250 (.agg WV) (.int .i64 11)).run Tryz.prog w=.ok (sv (words.getD 11 [])) w:=by kernel_rfl
theorem aJ8 (w:World):(Instr.index 250 (.agg WV) (.int .i64 12)).run Tryz.prog w=.ok (sv (words.getD 12 [])) w:=by kernel_rfl
theorem aJ7 (w:World):(Instr.index 250 (.agg WV) (.int .i64 13)).run Tryz.prog w=.ok (sv (words.getD 13 [])) w:=by kernel_rfl
theorem aJ6 (w:World):(Instr.index 250 (.agg WV) (.int .i64 14)).run Tryz.prog w=.ok (sv (words.getD 14 [])) w:=by kernel_rfl
theorem aJ5 (w:World):(Instr.index 250 (.agg WV) (.int .i64 15)).run Tryz.prog w=.ok (sv (words.getD 15 [])) w:=by kernel_rfl
theorem aJ4 (w:World):(Instr.index 250 (.agg WV) (.int .i64 16)).run Tryz.prog w=.ok (sv (words.getD 16 [])) w:=by kernel_rfl
theorem aJ3 (w:World):(Instr.index 250 (.agg WV) (.int .i64 17)).run Tryz.prog w=.ok (sv (words.getD 17 [])) w:=by kernel_rfl
theorem aJ2 (w:World):(Instr.index 250 (.agg WV) (.int .i64 18)).run Tryz.prog w=.ok (sv (words.getD 18 [])) w:=by kernel_rfl
theorem aJ1 (w:World):(Instr.index 250 (.agg WV) (.int .i64 19)).run Tryz.prog w=.ok (sv (words.getD 19 [])) w:=by kernel_rfl
theorem aJ0 (w:World):(Instr.index 250 (.agg WV) (.int .i64 20)).run Tryz.prog w=.ok (sv (words.getD 20 [])) w:=by kernel_rfl
theorem Y2 (k:Nat) (hk:k<21) (w:World):(Instr.index 250 (.agg WV) (.int .i64 k)).run Tryz.prog w=.ok (sv (words.getD k [])) w:=by
 match k,hk with
 | 0,_=>exact wx0 w
 | 1,_=>exact wx1 w
 | 2,_=>exact wx2 w
 | 3,_=>exact wx3 w
 | 4,_=>exact wx4 w
 | 5,_=>exact wx5 w
 | 6,_=>exact wx6 w
 | 7,_=>exact wx7 w
 | 8,_=>exact wx8 w
 | 9,_=>exact wx9 w
 | 10,_=>exact aK0 w
 | 11,_=>exact aJ9 w
 | 12,_=>exact aJ8 w
 | 13,_=>exact aJ7 w
 | 14,_=>exact aJ6 w
 | 15,_=>exact aJ5 w
 | 16,_=>exact aJ4 w
 | 17,_=>exact aJ3 w
 | 18,_=>exact aJ2 w
 | 19,_=>exact aJ1 w
 | 20,_=>exact aJ0 w
 | k+21,h=>omega
theorem Ze (k:Nat) (h:k<21):kw (words.getD k [])=true:=by
 have:∀k:Fin 21,kw (words.getD k.val [])=true:=by decide
 exact this ⟨k,h⟩
theorem aE0 (s:bB) (h:∀j,j<21->words.getD j []≠s):kw s=false:=by
 rw[Bool.eq_false_iff]
 intro hk
 simp only[kw,List.any_eq_true,beq_iff_eq] at hk
 obtain ⟨x,hx,rfl⟩:=hk
 obtain ⟨j,hj,rfl⟩:=List.mem_iff_getElem.1 hx
 exact h j hj (by rw[List.getD_eq_getElem?_getD,List.getElem?_eq_getElem hj];rfl)
theorem uV (s:ByteArray) (w:World) (ht:qJ w):Calls Tryz.prog 189 #[.string s] w fun e w'=>e=.returned (.bool (kw (bs s)))/\w'=w:=by
 have hl:(loadVar 250 ⟨2,0,none⟩).run Tryz.prog w=.ok (.agg WV) w:=sB 250 21 w 2 _ (by kernel_rfl) (by kernel_rfl) (by decide) ht.words
 clear ht
 go_enter Tryz.func189,Tryz.ntmps189
 go_wp2_with (refine bP rfl 250 (.global 2) rfl ⟨2,0,none⟩ rfl (.agg WV) hl ?_;clear hl)
 go_loop [6] (fun i=>∃k:Nat,k≤21/\i=.int .i64 k/\Hid (∀j,j<k->words.getD j []≠bs s)) (fun i=>21-(intOf i).toNat)
 case atStart=>exact ⟨0,by omega,rfl,fun j hj=>absurd hj (by omega)⟩
 case round=>
  obtain ⟨k,hk,rfl,hr⟩:=hrel
  by_cases hlt:k<21
  ·obtain ⟨mb,hmb⟩:∃mb:ByteArray,mb=⟨(words.getD k []).toArray⟩:=⟨_,rfl⟩
   have hix:∀w,(Instr.index 250 (.agg WV) (.int .i64 k)).run Tryz.prog w=.ok (.string mb) w:=by
    intro w;rw[hmb];exact Y2 k hlt w
   have HMB:Hid (bs mb=words.getD k []):=by
    show _=_;rw[hmb]
   clear hmb
   by_cases heq:bs mb=bs s
   ·have h1:=rT mb s heq
    have H:Hid (kw (bs s)=true):=by rw[Hid,<-heq,HMB.out];exact Ze k hlt
    clear heq
    go_wp2
    go_ret
    exact ⟨mK H.out.symm,rfl⟩
   ·have h1:=wM mb s heq
    have H:Hid (∀j,j<k+1->words.getD j []≠bs s):=by
     intro j hjk
     by_cases e:j=k
     ·subst e;rw[<-HMB.out];exact heq
     ·exact hr.out j (by omega)
    clear heq
    go_wp2
    go_round
    case rel=>exact ⟨k+1,by omega,by go_num,H⟩
    case measure=>simp[intOf];omega
  ·have H:Hid (kw (bs s)=false):=aE0 _ (fun j hj=>hr.out j (by omega))
   go_wp2
   go_ret
   exact ⟨mK H.out.symm,rfl⟩
def KV:Array Value:=(kindsL.map sv).toArray
theorem kx0 (w:World):(Instr.index 251 (.agg KV) (.int .i64 0)).run Tryz.prog w=.ok (sv (kindsL.getD 0 [])) w:=by kernel_rfl
theorem kx1 (w:World):(Instr.index 251 (.agg KV) (.int .i64 1)).run Tryz.prog w=.ok (sv (kindsL.getD 1 [])) w:=by kernel_rfl
theorem kx2 (w:World):(Instr.index 251 (.agg KV) (.int .i64 2)).run Tryz.prog w=.ok (sv (kindsL.getD 2 [])) w:=by kernel_rfl
theorem kx3 (w:World):(Instr.index 251 (.agg KV) (.int .i64 3)).run Tryz.prog w=.ok (sv (kindsL.getD 3 [])) w:=by kernel_rfl
theorem Y5 (k:Nat) (hk:k<4) (w:World):(Instr.index 251 (.agg KV) (.int .i64 k)).run Tryz.prog w=.ok (sv (kindsL.getD k [])) w:=by
 match k,hk with
 | 0,_=>exact kx0 w
 | 1,_=>exact kx1 w
 | 2,_=>exact kx2 w
 | 3,_=>exact kx3 w
 | k+4,h=>omega
theorem Jk (k:Nat) (h:k<4):dV (kindsL.getD k [])=k:=by
 have:∀k:Fin 4,dV (kindsL.getD k.val [])=k.val:=by decide
 exact this ⟨k,h⟩
theorem X8 (s:bB) (h:∀j,j<4->kindsL.getD j []≠s):dV s=0:=by
 unfold dV
 rw[if_neg (fun e=>h 1 (by omega) e.symm),if_neg (fun e=>h 2 (by omega) e.symm),if_neg (fun e=>h 3 (by omega) e.symm)]
theorem Da (s:ByteArray) (w:World) (ht:qJ w):Calls Tryz.prog 136 #[.string s] w fun e w'=>e=.returned (.int .i64 (dV (bs s):Nat))/\w'=w:=by
 have hl:(loadVar 251 ⟨1,0,none⟩).run Tryz.prog w=.ok (.agg KV) w:=sB 251 4 w 1 _ (by kernel_rfl) (by kernel_rfl) (by decide) ht.kinds
 clear ht
 go_enter Tryz.func136,Tryz.ntmps136
 go_wp2_with (refine bP rfl 251 (.global 1) rfl ⟨1,0,none⟩ rfl (.agg KV) hl ?_;clear hl)
 go_loop [6] (fun i=>∃k:Nat,k≤4/\i=.int .i64 k/\Hid (∀j,j<k->kindsL.getD j []≠bs s)) (fun i=>4-(intOf i).toNat)
 case atStart=>exact ⟨0,by omega,rfl,fun j hj=>absurd hj (by omega)⟩
 case round=>
  obtain ⟨k,hk,rfl,hr⟩:=hrel
  by_cases hlt:k<4
  ·obtain ⟨mb,hmb⟩:∃mb:ByteArray,mb=⟨(kindsL.getD k []).toArray⟩:=⟨_,rfl⟩
   have hix:∀w,(Instr.index 251 (.agg KV) (.int .i64 k)).run Tryz.prog w=.ok (.string mb) w:=by
    intro w;rw[hmb];exact Y5 k hlt w
   have HMB:Hid (bs mb=kindsL.getD k []):=by
    show _=_;rw[hmb]
   clear hmb
   by_cases heq:bs mb=bs s
   ·have h1:=rT mb s heq
    have H:Hid (dV (bs s)=k):=by rw[Hid,<-heq,HMB.out];exact Jk k hlt
    clear heq
    go_wp2
    go_ret
    exact ⟨fG (by rw[H.out]),rfl⟩
   ·have h1:=wM mb s heq
    have H:Hid (∀j,j<k+1->kindsL.getD j []≠bs s):=by
     intro j hjk
     by_cases e:j=k
     ·subst e;rw[<-HMB.out];exact heq
     ·exact hr.out j (by omega)
    clear heq
    go_wp2
    go_round
    case rel=>exact ⟨k+1,by omega,by go_num,H⟩
    case measure=>simp[intOf];omega
  ·have H:Hid (dV (bs s)=0):=X8 _ (fun j hj=>hr.out j (by omega))
   go_wp2
   go_ret
   exact ⟨fG (by rw[H.out];rfl),rfl⟩
def LV:Array Value:=(leadsL.map sv).toArray
theorem lx0 (w:World):(Instr.index 344 (.agg LV) (.int .i64 0)).run Tryz.prog w=.ok (sv (leadsL.getD 0 [])) w:=by kernel_rfl
theorem lx1 (w:World):(Instr.index 344 (.agg LV) (.int .i64 1)).run Tryz.prog w=.ok (sv (leadsL.getD 1 [])) w:=by kernel_rfl
theorem lx2 (w:World):(Instr.index 344 (.agg LV) (.int .i64 2)).run Tryz.prog w=.ok (sv (leadsL.getD 2 [])) w:=by kernel_rfl
theorem Y4 (k:Nat) (hk:k<3) (w:World):(Instr.index 344 (.agg LV) (.int .i64 k)).run Tryz.prog w=.ok (sv (leadsL.getD k [])) w:=by
 match k,hk with
 | 0,_=>exact lx0 w
 | 1,_=>exact lx1 w
 | 2,_=>exact lx2 w
 | k+3,h=>omega
theorem Jh (k:Nat) (h:k<3):cX (leadsL.getD k [])=some k:=by
 have:∀k:Fin 3,cX (leadsL.getD k.val [])=some k.val:=by decide
 exact this ⟨k,h⟩
theorem X5 (s:bB) (h:∀j,j<3->leadsL.getD j []≠s):cX s=none:=by
 unfold cX
 rw[if_neg (fun e=>h 0 (by omega) e.symm),if_neg (fun e=>h 1 (by omega) e.symm),if_neg (fun e=>h 2 (by omega) e.symm)]
def qR:Option Nat->Value
 | some k=>.tuple #[.int .i64 k,.bool true]
 | none=>.tuple #[.int .i64 0,.bool false]
theorem Cw (s:ByteArray) (w:World) (ht:qJ w):Calls Tryz.prog 251 #[.string s] w fun e w'=>e=.returned (qR (cX (bs s)))/\w'=w:=by
 have hl:(loadVar 344 ⟨3,0,none⟩).run Tryz.prog w=.ok (.agg LV) w:=sB 344 3 w 3 _ (by kernel_rfl) (by kernel_rfl) (by decide) ht.leads
 clear ht
 go_enter Tryz.func251,Tryz.ntmps251
 go_wp2_with (refine bP rfl 344 (.global 3) rfl ⟨3,0,none⟩ rfl (.agg LV) hl ?_;clear hl)
 go_loop [7] (fun i=>∃k:Nat,k≤3/\i=.int .i64 k/\Hid (∀j,j<k->leadsL.getD j []≠bs s)) (fun i=>3-(intOf i).toNat)
 case atStart=>exact ⟨0,by omega,rfl,fun j hj=>absurd hj (by omega)⟩
 case round=>
  obtain ⟨k,hk,rfl,hr⟩:=hrel
  by_cases hlt:k<3
  ·obtain ⟨mb,hmb⟩:∃mb:ByteArray,mb=⟨(leadsL.getD k []).toArray⟩:=⟨_,rfl⟩
   have hix:∀w,(Instr.index 344 (.agg LV) (.int .i64 k)).run Tryz.prog w=.ok (.string mb) w:=by
    intro w;rw[hmb];exact Y4 k hlt w
   have HMB:Hid (bs mb=leadsL.getD k []):=by
    show _=_;rw[hmb]
   clear hmb
   by_cases heq:bs mb=bs s
   ·have h1:=rT mb s heq
    have H:Hid (cX (bs s)=some k):=by rw[Hid,<-heq,HMB.out];exact Jh k hlt
    clear heq
    go_wp2
    go_ret2
    exact ⟨by rw[H.out];rfl,rfl⟩
   ·have h1:=wM mb s heq
    have H:Hid (∀j,j<k+1->leadsL.getD j []≠bs s):=by
     intro j hjk
     by_cases e:j=k
     ·subst e;rw[<-HMB.out];exact heq
     ·exact hr.out j (by omega)
    clear heq
    go_wp2
    go_round
    case rel=>exact ⟨k+1,by omega,by go_num,H⟩
    case measure=>simp[intOf];omega
  ·have H:Hid (cX (bs s)=none):=X5 _ (fun j hj=>hr.out j (by omega))
   go_wp2
   go_ret2
   exact ⟨by rw[H.out];rfl,rfl⟩
def AV:Array Value:=(aheadL.flatMap nY).toArray
theorem ax0 (w:World):(Instr.index 360 (.agg AV) (.int .i64 0)).run Tryz.prog w=.ok (.agg (nY (aheadL.getD 0 ([],0))).toArray) w:=by kernel_rfl
theorem ax1 (w:World):(Instr.index 360 (.agg AV) (.int .i64 1)).run Tryz.prog w=.ok (.agg (nY (aheadL.getD 1 ([],0))).toArray) w:=by kernel_rfl
theorem Y6 (k:Nat) (hk:k<2) (w:World):(Instr.index 360 (.agg AV) (.int .i64 k)).run Tryz.prog w=.ok (.agg (nY (aheadL.getD k ([],0))).toArray) w:=by
 match k,hk with
 | 0,_=>exact ax0 w
 | 1,_=>exact ax1 w
 | k+2,h=>omega
theorem I3 (k:Nat) (h:k<2):bG (aheadL.getD k ([],0)).1=(aheadL.getD k ([],0)).2:=by
 have:∀k:Fin 2,bG (aheadL.getD k.val ([],0)).1=(aheadL.getD k.val ([],0)).2:=by decide
 exact this ⟨k,h⟩
theorem xY (s:bB) (h:∀j,j<2->(aheadL.getD j ([],0)).1≠s):bG s=0:=by
 unfold bG
 rw[if_neg (fun e=>h 0 (by omega) e.symm),if_neg (fun e=>h 1 (by omega) e.symm)]
theorem yV (s:ByteArray) (w:World) (ht:qJ w):Calls Tryz.prog 281 #[.string s] w fun e w'=>e=.returned (.int .i64 (bG (bs s):Nat))/\Below w.heap.size w w':=by
 have hl:(loadVar 360 ⟨7,0,none⟩).run Tryz.prog w=.ok (.agg AV) w:=sB 360 4 w 7 _ (by kernel_rfl) (by kernel_rfl) (by decide) ht.ahead
 clear ht
 go_enter Tryz.func281,Tryz.ntmps281
 go_wp2_with (refine bP rfl 360 (.global 7) rfl ⟨7,0,none⟩ rfl (.agg AV) hl ?_;clear hl)
 go_loopg [6] 2 (fun g i wr=>∃k:Nat,g=2-k/\k≤2/\i=.int .i64 k/\Hid (∀j,j<k->(aheadL.getD j ([],0)).1≠bs s)/\Below w.heap.size w wr)
 case atStart=>exact ⟨0,by omega,by omega,rfl,fun j hj=>absurd hj (by omega),Below.refl _ _⟩
 case round=>
  obtain ⟨k,rfl,hk,rfl,hr,hbw⟩:=hrel
  have hwb:=hbw.size
  by_cases hlt:k<2
  ·obtain ⟨mb,c,hmb,hc⟩:∃(mb:ByteArray) (c:Nat),mb=⟨(aheadL.getD k ([],0)).1.toArray⟩/\c=(aheadL.getD k ([],0)).2:=⟨_,_,rfl,rfl⟩
   have hix:∀w,(Instr.index 360 (.agg AV) (.int .i64 k)).run Tryz.prog w=.ok (.agg #[.string mb,.int .i64 c]) w:=by
    intro w;rw[hmb,hc];exact Y6 k hlt w
   have HMB:Hid (bs mb=(aheadL.getD k ([],0)).1):=by
    show _=_;rw[hmb]
   have HC:Hid (c=(aheadL.getD k ([],0)).2):=hc
   clear hmb hc
   by_cases heq:bs mb=bs s
   ·have h1:=rT mb s heq
    have H:Hid (bG (bs s)=c):=by rw[Hid,<-heq,HMB.out,HC.out];exact I3 k hlt
    clear heq
    go_wp2
    go_ret
    exact ⟨fG (by rw[H.out]),hbw.alloc hwb _⟩
   ·have h1:=wM mb s heq
    have H:Hid (∀j,j<k+1->(aheadL.getD j ([],0)).1≠bs s):=by
     intro j hjk
     by_cases e:j=k
     ·subst e;rw[<-HMB.out];exact heq
     ·exact hr.out j (by omega)
    clear heq
    go_wp2
    go_roundg (2-(k+1))
    case measure=>omega
    case rel=>exact ⟨k+1,rfl,by omega,by go_num,H,hbw.alloc hwb _⟩
  ·have H:Hid (bG (bs s)=0):=xY _ (fun j hj=>hr.out j (by omega))
   go_wp2
   go_ret
   exact ⟨fG (by rw[H.out];rfl),hbw⟩
def BV (t:Nat):Array Value:=((betweenL.getD t []).flatMap nY).toArray
def jH (t k:Nat):bB×Nat:=(betweenL.getD t []).getD k ([],0)
theorem aP1 (w:World):(Instr.index 357 (.agg (BV 0)) (.int .i64 0)).run Tryz.prog w=.ok (.agg #[sv (jH 0 0).1,.int .i64 (jH 0 0).2]) w:=by kernel_rfl
theorem aP0 (w:World):(Instr.index 357 (.agg (BV 0)) (.int .i64 1)).run Tryz.prog w=.ok (.agg #[sv (jH 0 1).1,.int .i64 (jH 0 1).2]) w:=by kernel_rfl
theorem aO9 (w:World):(Instr.index 357 (.agg (BV 0)) (.int .i64 2)).run Tryz.prog w=.ok (.agg #[sv (jH 0 2).1,.int .i64 (jH 0 2).2]) w:=by kernel_rfl
theorem aO8 (w:World):(Instr.index 357 (.agg (BV 0)) (.int .i64 3)).run Tryz.prog w=.ok (.agg #[sv (jH 0 3).1,.int .i64 (jH 0 3).2]) w:=by kernel_rfl
theorem aO7 (w:World):(Instr.index 357 (.agg (BV 1)) (.int .i64 0)).run Tryz.prog w=.ok (.agg #[sv (jH 1 0).1,.int .i64 (jH 1 0).2]) w:=by kernel_rfl
theorem aO6 (w:World):(Instr.index 357 (.agg (BV 1)) (.int .i64 1)).run Tryz.prog w=.ok (.agg #[sv (jH 1 1).1,.int .i64 (jH 1 1).2]) w:=by kernel_rfl
theorem aO5 (w:World):(Instr.index 357 (.agg (BV 1)) (.int .i64 2)).run Tryz.prog w=.ok (.agg #[sv (jH 1 2).1,.int .i64 (jH 1 2).2]) w:=by kernel_rfl
theorem aO4 (w:World):(Instr.index 357 (.agg (BV 1)) (.int .i64 3)).run Tryz.prog w=.ok (.agg #[sv (jH 1 3).1,.int .i64 (jH 1 3).2]) w:=by kernel_rfl
theorem aO3 (w:World):(Instr.index 357 (.agg (BV 2)) (.int .i64 0)).run Tryz.prog w=.ok (.agg #[sv (jH 2 0).1,.int .i64 (jH 2 0).2]) w:=by kernel_rfl
theorem aO2 (w:World):(Instr.index 357 (.agg (BV 2)) (.int .i64 1)).run Tryz.prog w=.ok (.agg #[sv (jH 2 1).1,.int .i64 (jH 2 1).2]) w:=by kernel_rfl
theorem aO1 (w:World):(Instr.index 357 (.agg (BV 2)) (.int .i64 2)).run Tryz.prog w=.ok (.agg #[sv (jH 2 2).1,.int .i64 (jH 2 2).2]) w:=by kernel_rfl
theorem aO0 (w:World):(Instr.index 357 (.agg (BV 2)) (.int .i64 3)).run Tryz.prog w=.ok (.agg #[sv (jH 2 3).1,.int .i64 (jH 2 3).2]) w:=by kernel_rfl
theorem aN9 (w:World):(Instr.index 357 (.agg (BV 3)) (.int .i64 0)).run Tryz.prog w=.ok (.agg #[sv (jH 3 0).1,.int .i64 (jH 3 0).2]) w:=by kernel_rfl
theorem aN8 (w:World):(Instr.index 357 (.agg (BV 3)) (.int .i64 1)).run Tryz.prog w=.ok (.agg #[sv (jH 3 1).1,.int .i64 (jH 3 1).2]) w:=by kernel_rfl
theorem aN7 (w:World):(Instr.index 357 (.agg (BV 3)) (.int .i64 2)).run Tryz.prog w=.ok (.agg #[sv (jH 3 2).1,.int .i64 (jH 3 2).2]) w:=by kernel_rfl
theorem aN6 (w:World):(Instr.index 357 (.agg (BV 3)) (.int .i64 3)).run Tryz.prog w=.ok (.agg #[sv (jH 3 3).1,.int .i64 (jH 3 3).2]) w:=by kernel_rfl
theorem aN5 (w:World):(Instr.index 357 (.agg (BV 4)) (.int .i64 0)).run Tryz.prog w=.ok (.agg #[sv (jH 4 0).1,.int .i64 (jH 4 0).2]) w:=by kernel_rfl
theorem aN4 (w:World):(Instr.index 357 (.agg (BV 4)) (.int .i64 1)).run Tryz.prog w=.ok (.agg #[sv (jH 4 1).1,.int .i64 (jH 4 1).2]) w:=by kernel_rfl
theorem aN3 (w:World):(Instr.index 357 (.agg (BV 4)) (.int .i64 2)).run Tryz.prog w=.ok (.agg #[sv (jH 4 2).1,.int .i64 (jH 4 2).2]) w:=by kernel_rfl
theorem aN2 (w:World):(Instr.index 357 (.agg (BV 4)) (.int .i64 3)).run Tryz.prog w=.ok (.agg #[sv (jH 4 3).1,.int .i64 (jH 4 3).2]) w:=by kernel_rfl
theorem Jw (t k:Nat) (ht:t<5) (hk:k<4) (w:World):(Instr.index 357 (.agg (BV t)) (.int .i64 k)).run Tryz.prog w=.ok (.agg #[sv (jH t k).1,.int .i64 (jH t k).2]) w:=by
 match t,ht,k,hk with
 | 0,_,0,_=>exact aP1 w
 | 0,_,1,_=>exact aP0 w
 | 0,_,2,_=>exact aO9 w
 | 0,_,3,_=>exact aO8 w
 | 1,_,0,_=>exact aO7 w
 | 1,_,1,_=>exact aO6 w
 | 1,_,2,_=>exact aO5 w
 | 1,_,3,_=>exact aO4 w
 | 2,_,0,_=>exact aO3 w
 | 2,_,1,_=>exact aO2 w
 | 2,_,2,_=>exact aO1 w
 | 2,_,3,_=>exact aO0 w
 | 3,_,0,_=>exact aN9 w
 | 3,_,1,_=>exact aN8 w
 | 3,_,2,_=>exact aN7 w
 | 3,_,3,_=>exact aN6 w
 | 4,_,0,_=>exact aN5 w
 | 4,_,1,_=>exact aN4 w
 | 4,_,2,_=>exact aN3 w
 | 4,_,3,_=>exact aN2 w
 | t+5,h,_,_=>omega
 | _,_,k+4,h=>omega
theorem Kp (t k:Nat) (ht:t<5) (h:k<4) (h0:(jH t k).2≠0):iI t (jH t k).1=(jH t k).2:=by
 have:∀(t:Fin 5) (k:Fin 4),(jH t.val k.val).2≠0->iI t.val (jH t.val k.val).1=(jH t.val k.val).2:=by decide
 exact this ⟨t,ht⟩ ⟨k,h⟩ h0
theorem s9:∀(l:List (bB×Nat)) (s:bB),(∀p∈l,p.2≠0->p.1≠s)->(∀p∈l,p.2≠0)->rJ l s=0:=by
 intro l
 induction l with
 | nil=>intro s _ _;rfl
 | cons p r ih=>
  intro s h h0
  obtain ⟨t,c⟩:=p
  rw[rJ,if_neg (h (t,c) (by simp) (h0 (t,c) (by simp)))]
  exact ih s (fun p hp=>h p (by simp[hp])) (fun p hp=>h0 p (by simp[hp]))
theorem zK:∀(t:Fin 5) (p:bB×Nat),p∈signs.getD t.val []->p.2≠0:=by decide
theorem Hz:∀(t:Fin 5) (p:bB×Nat),p∈signs.getD t.val []->∃k:Fin 4,p=jH t.val k.val:=by decide
theorem Aa (t:Nat) (ht:t<5) (s:bB) (h:∀k,k<4->(jH t k).2≠0->(jH t k).1≠s):iI t s=0:=by
 refine s9 _ s (fun p hp _=>?_) (zK ⟨t,ht⟩)
 obtain ⟨k,rfl⟩:=Hz ⟨t,ht⟩ p hp
 exact h k.val k.isLt (zK ⟨t,ht⟩ _ hp)
theorem Ih (t:Nat) (ht:t<5):∀j v,((betweenL.getD t []).flatMap nY)[j]?=some v->(betweenL.flatMap (·.flatMap nY))[t*8+j]?=some v:=by
 intro j v hv
 have hj:j<8:=by
  have:=(List.getElem?_eq_some_iff.1 hv).1
  have e:∀t:Fin 5,((betweenL.getD t.val []).flatMap nY).length=8:=by decide
  rw[e ⟨t,ht⟩] at this;exact this
 rw[<-hv]
 match t,ht,j,hj with
 | 0,_,0,_=>rfl
 | 0,_,1,_=>rfl
 | 0,_,2,_=>rfl
 | 0,_,3,_=>rfl
 | 0,_,4,_=>rfl
 | 0,_,5,_=>rfl
 | 0,_,6,_=>rfl
 | 0,_,7,_=>rfl
 | 1,_,0,_=>rfl
 | 1,_,1,_=>rfl
 | 1,_,2,_=>rfl
 | 1,_,3,_=>rfl
 | 1,_,4,_=>rfl
 | 1,_,5,_=>rfl
 | 1,_,6,_=>rfl
 | 1,_,7,_=>rfl
 | 2,_,0,_=>rfl
 | 2,_,1,_=>rfl
 | 2,_,2,_=>rfl
 | 2,_,3,_=>rfl
 | 2,_,4,_=>rfl
 | 2,_,5,_=>rfl
 | 2,_,6,_=>rfl
 | 2,_,7,_=>rfl
 | 3,_,0,_=>rfl
 | 3,_,1,_=>rfl
 | 3,_,2,_=>rfl
 | 3,_,3,_=>rfl
 | 3,_,4,_=>rfl
 | 3,_,5,_=>rfl
 | 3,_,6,_=>rfl
 | 3,_,7,_=>rfl
 | 4,_,0,_=>rfl
 | 4,_,1,_=>rfl
 | 4,_,2,_=>rfl
 | 4,_,3,_=>rfl
 | 4,_,4,_=>rfl
 | 4,_,5,_=>rfl
 | 4,_,6,_=>rfl
 | 4,_,7,_=>rfl
 | t+5,h,_,_=>omega
 | _,_,j+8,h=>omega
theorem Ou {w:World}(h:qJ w) (t:Nat) (ht:t<5):(loadVar 357 ⟨6,t*8,none⟩).run Tryz.prog w=.ok (.agg (BV t)) w:=
 xJ 357 8 w 6 (t*8) _ (by kernel_rfl) (by kernel_rfl) (by have e:∀t:Fin 5,((betweenL.getD t.val []).flatMap nY).length=8:=by decide
                                                          exact e ⟨t,ht⟩) (fun j v hv=>h.between _ v (Ih t ht j v hv))
theorem vE (s:ByteArray) (t:Nat) (ht5:t<5) (w:World) (ht:qJ w):Calls Tryz.prog 278 #[.string s,.int .i64 t] w fun e w'=>e=.returned (.int .i64 (iI t (bs s):Nat))/\Below w.heap.size w w':=by
 have hl:=Ou ht t ht5
 have hcl:∀B:List Value,B=betweenL.flatMap (·.flatMap nY)->True:=fun _ _=>trivial
 clear ht hcl
 go_enter Tryz.func278,Tryz.ntmps278
 go_wp2_with (refine bP rfl 357 (.tmp 8) rfl ⟨6,t*8,none⟩ rfl (.agg (BV t)) hl ?_;clear hl)
 go_loopg [10] 4 (fun g i wr=>∃k:Nat,g=4-k/\k≤4/\i=.int .i64 k/\Hid (∀j,j<k->(jH t j).2≠0->(jH t j).1≠bs s)/\Below w.heap.size w wr)
 case atStart=>exact ⟨0,by omega,by omega,rfl,fun j hj=>absurd hj (by omega),Below.refl _ _⟩
 case round=>
  obtain ⟨k,rfl,hk,rfl,hr,hbw⟩:=hrel
  have hwb:=hbw.size
  by_cases hlt:k<4
  ·obtain ⟨mb,c,hmb,hc⟩:∃(mb:ByteArray) (c:Nat),mb=⟨(jH t k).1.toArray⟩/\c=(jH t k).2:=⟨_,_,rfl,rfl⟩
   have hix:∀w,(Instr.index 357 (.agg (BV t)) (.int .i64 k)).run Tryz.prog w=.ok (.agg #[.string mb,.int .i64 c]) w:=by
    intro w;rw[hmb,hc];exact Jw t k ht5 hlt w
   have HMB:Hid (bs mb=(jH t k).1):=by
    show _=_;rw[hmb]
   have HC:Hid (c=(jH t k).2):=hc
   clear hmb hc
   by_cases hc0:c=0
   ·subst hc0
    have H:Hid (∀j,j<k+1->(jH t j).2≠0->(jH t j).1≠bs s):=by
     intro j hjk
     by_cases e:j=k
     ·subst e;intro h;exact absurd HC.out.symm h
     ·exact hr.out j (by omega)
    go_wp2
    go_roundg (4-(k+1))
    case measure=>omega
    case rel=>exact ⟨k+1,rfl,by omega,by go_num,H,hbw.alloc hwb _⟩
   ·have hc1:¬(c:Int)=0:=by omega
    have hc2:((c:Int) != 0)=true:=by simpa using hc1
    by_cases heq:bs mb=bs s
    ·have h1:=rT mb s heq
     have H:Hid (iI t (bs s)=c):=by rw[Hid,<-heq,HMB.out,HC.out];exact Kp t k ht5 hlt (by rw[<-HC.out];exact hc0)
     clear heq
     go_wp2
     go_ret
     exact ⟨fG (by rw[H.out]),hbw.alloc hwb _⟩
    ·have h1:=wM mb s heq
     have H:Hid (∀j,j<k+1->(jH t j).2≠0->(jH t j).1≠bs s):=by
      intro j hjk
      by_cases e:j=k
      ·subst e;intro _;rw[<-HMB.out];exact heq
      ·exact hr.out j (by omega)
     clear heq
     go_wp2
     go_roundg (4-(k+1))
     case measure=>omega
     case rel=>exact ⟨k+1,rfl,by omega,by go_num,H,hbw.alloc hwb _⟩
  ·have H:Hid (iI t (bs s)=0):=Aa t ht5 _ (fun j hj=>hr.out j (by omega))
   go_wp2
   go_ret
   exact ⟨fG (by rw[H.out];rfl),hbw⟩
end Go.Proofs.YtcdbhoknhnimcaaGreatDoor
