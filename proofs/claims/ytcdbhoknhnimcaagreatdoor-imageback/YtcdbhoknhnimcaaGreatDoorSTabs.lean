import Derived.Test.YtcdbhoknhnimcaaGreatDoorSRead
import Derived.Test.YtcdbhoknhnimcaaGreatDoorSCr
import Derived.Deep.LoopGhost
set_option maxRecDepth 100000
set_option maxHeartbeats 2000000
namespace Go.Proofs.YtcdbhoknhnimcaaGreatDoor
open Go.RowKit Px
theorem bB4 (a b:ByteArray):(a.toList==b.toList)=decide (bs a=bs b):=by
 rw[ByteArray.toList_eq,ByteArray.toList_eq,Bool.eq_iff_iff]
 simp only[beq_iff_eq,decide_eq_true_eq]
theorem qX (a b:ByteArray) (h:bs a=bs b):(a.toList==b.toList)=true:=by rw[bB4];exact decide_eq_true h
theorem vP (a b:ByteArray) (h:bs a≠bs b):(a.toList==b.toList)=false:=by rw[bB4];exact decide_eq_false h
def oG (w:World) (b:Nat) (cs:List Value):Prop:=∀i v,cs[i]?=some v->w.cell? ⟨b,i,none⟩=some v
def kindsL:List bA:=[[],bH4,aM5,cK5]
def leadsL:List bA:=[Di,bH6,bZ0]
def mZ (p:bA×Nat):List Value:=[sv p.1,.int .i64 p.2]
def aheadL:List (bA×Nat):=[(sV,4),(cK6,5)]
def cC2 (l:List (bA×Nat)):List (bA×Nat):=(l++[([],0),([],0),([],0)]).take 4
def betweenL:List (List (bA×Nat)):=signs.map cC2
structure pJ (w:World):Prop where
 words:oG w 2 (words.map sv)
 kinds:oG w 1 (kindsL.map sv)
 leads:oG w 3 (leadsL.map sv)
 ahead:oG w 7 (aheadL.flatMap mZ)
 between:oG w 6 (betweenL.flatMap (·.flatMap mZ))
theorem oG.keep {w w':World}{b:Nat}{cs:List Value}(h:oG w b cs) (hb:w'.heap[b]?=w.heap[b]?):oG w' b cs:=fun i v hv=>by
 rw[World.cell?_of_block (w:=w) (a:=⟨b,i,none⟩) hb];exact h i v hv
theorem pJ.keep {w w':World}(h:pJ w) (hb:∀b,b<11->w'.heap[b]?=w.heap[b]?):pJ w':=
 ⟨h.words.keep (hb 2 (by omega)),h.kinds.keep (hb 1 (by omega)),h.leads.keep (hb 3 (by omega)),h.ahead.keep (hb 7 (by omega)),h.between.keep (hb 6 (by omega))⟩
theorem wJ (T n:Nat) (w:World) (b o:Nat) (cs:List Value) (hagg:(isAgg T).run Tryz.prog w=.ok true w) (hsz:(sizeOf T).run Tryz.prog w=.ok n w) (hn:cs.length=n)
    (h:∀j v,cs[j]?=some v->w.cell? ⟨b,o+j,none⟩=some v):(loadVar T ⟨b,o,none⟩).run Tryz.prog w=.ok (.agg cs.toArray) w:=by
 have hl:=run_loadCells_list (P:=Tryz.prog) w ⟨b,o,none⟩ cs (fun j v hv=>by
  have hadd:(⟨b,o,none⟩:Addr).add j=⟨b,o+j,none⟩:=by unfold Addr.add;split<;>simp_all
  rw[hadd];exact h j v hv)
 rw[hn] at hl
 unfold loadVar
 rw[Sem.run_bind,hagg]
 simp only[Result.andThen,if_true,Sem.run_bind,hsz,hl]
 rfl
theorem rK (T n:Nat) (w:World) (b:Nat) (cs:List Value) (hagg:(isAgg T).run Tryz.prog w=.ok true w) (hsz:(sizeOf T).run Tryz.prog w=.ok n w) (hn:cs.length=n) (h:oG w b cs):(loadVar T ⟨b,0,none⟩).run Tryz.prog w=.ok (.agg cs.toArray) w:=
 wJ T n w b 0 cs hagg hsz hn (fun j v hv=>by rw[Nat.zero_add];exact h j v hv)
def WV:Array Value:=(words.map sv).toArray
theorem Dv (w:World):(Instr.index 250 (.agg WV) (.int .i64 0)).run Tryz.prog w=.ok (sv (words.getD 0 [])) w:=by kernel_rfl
theorem Du (w:World):(Instr.index 250 (.agg WV) (.int .i64 1)).run Tryz.prog w=.ok (sv (words.getD 1 [])) w:=by kernel_rfl
theorem Dt (w:World):(Instr.index 250 (.agg WV) (.int .i64 2)).run Tryz.prog w=.ok (sv (words.getD 2 [])) w:=by kernel_rfl
theorem Ds (w:World):(Instr.index 250 (.agg WV) (.int .i64 3)).run Tryz.prog w=.ok (sv (words.getD 3 [])) w:=by kernel_rfl
theorem Dq (w:World):(Instr.index 250 (.agg WV) (.int .i64 4)).run Tryz.prog w=.ok (sv (words.getD 4 [])) w:=by kernel_rfl
theorem Dp (w:World):(Instr.index 250 (.agg WV) (.int .i64 5)).run Tryz.prog w=.ok (sv (words.getD 5 [])) w:=by kernel_rfl
theorem Do (w:World):(Instr.index 250 (.agg WV) (.int .i64 6)).run Tryz.prog w=.ok (sv (words.getD 6 [])) w:=by kernel_rfl
theorem Dn (w:World):(Instr.index 250 (.agg WV) (.int .i64 7)).run Tryz.prog w=.ok (sv (words.getD 7 [])) w:=by kernel_rfl
theorem Dm (w:World):(Instr.index 250 (.agg WV) (.int .i64 8)).run Tryz.prog w=.ok (sv (words.getD 8 [])) w:=by kernel_rfl
theorem Dl (w:World):(Instr.index 250 (.agg WV) (.int .i64 9)).run Tryz.prog w=.ok (sv (words.getD 9 [])) w:=by kernel_rfl
theorem cP9 (w:World):(Instr.index 250 (.agg WV) (.int .i64 10)).run Tryz.prog w=.ok (sv (words.getD 10 [])) w:=by kernel_rfl
theorem cP8 (w:World):(Instr.index 250 (.agg WV) (.int .i64 11)).run Tryz.prog w=.ok (sv (words.getD 11 [])) w:=by kernel_rfl
theorem cP7 (w:World):(Instr.index 250 (.agg WV) (.int .i64 12)).run Tryz.prog w=.ok (sv (words.getD 12 [])) w:=by kernel_rfl
theorem cP6 (w:World):(Instr.index 250 (.agg WV) (.int .i64 13)).run Tryz.prog w=.ok (sv (words.getD 13 [])) w:=by kernel_rfl
theorem cP5 (w:World):(Instr.index 250 (.agg WV) (.int .i64 14)).run Tryz.prog w=.ok (sv (words.getD 14 [])) w:=by kernel_rfl
theorem cP4 (w:World):(Instr.index 250 (.agg WV) (.int .i64 15)).run Tryz.prog w=.ok (sv (words.getD 15 [])) w:=by kernel_rfl
theorem cP3 (w:World):(Instr.index 250 (.agg WV) (.int .i64 16)).run Tryz.prog w=.ok (sv (words.getD 16 [])) w:=by kernel_rfl
theorem cP2 (w:World):(Instr.index 250 (.agg WV) (.int .i64 17)).run Tryz.prog w=.ok (sv (words.getD 17 [])) w:=by kernel_rfl
theorem cP1 (w:World):(Instr.index 250 (.agg WV) (.int .i64 18)).run Tryz.prog w=.ok (sv (words.getD 18 [])) w:=by kernel_rfl
theorem cP0 (w:World):(Instr.index 250 (.agg WV) (.int .i64 19)).run Tryz.prog w=.ok (sv (words.getD 19 [])) w:=by kernel_rfl
theorem cO9 (w:World):(Instr.index 250 (.agg WV) (.int .i64 20)).run Tryz.prog w=.ok (sv (words.getD 20 [])) w:=by kernel_rfl
theorem X6 (k:Nat) (hk:k<21) (w:World):(Instr.index 250 (.agg WV) (.int .i64 k)).run Tryz.prog w=.ok (sv (words.getD k [])) w:=by
 match k,hk with
 | 0,_=>exact Dv w
 | 1,_=>exact Du w
 | 2,_=>exact Dt w
 | 3,_=>exact Ds w
 | 4,_=>exact Dq w
 | 5,_=>exact Dp w
 | 6,_=>exact Do w
 | 7,_=>exact Dn w
 | 8,_=>exact Dm w
 | 9,_=>exact Dl w
 | 10,_=>exact cP9 w
 | 11,_=>exact cP8 w
 | 12,_=>exact cP7 w
 | 13,_=>exact cP6 w
 | 14,_=>exact cP5 w
 | 15,_=>exact cP4 w
 | 16,_=>exact cP3 w
 | 17,_=>exact cP2 w
 | 18,_=>exact cP1 w
 | 19,_=>exact cP0 w
 | 20,_=>exact cO9 w
 | k+21,h=>omega
theorem cE0 (k:Nat) (h:k<21):kw (words.getD k [])=true:=by
 have:∀k:Fin 21,kw (words.getD k.val [])=true:=by decide
 exact this ⟨k,h⟩
theorem cK4 (s:bA) (h:∀j,j<21->words.getD j []≠s):kw s=false:=by
 rw[Bool.eq_false_iff]
 intro hk
 simp only[kw,List.any_eq_true,beq_iff_eq] at hk
 obtain ⟨x,hx,rfl⟩:=hk
 obtain ⟨j,hj,rfl⟩:=List.mem_iff_getElem.1 hx
 exact h j hj (by rw[List.getD_eq_getElem?_getD,List.getElem?_eq_getElem hj];rfl)
theorem tU (s:ByteArray) (w:World) (ht:pJ w):Calls Tryz.prog 189 #[.string s] w fun e w'=>e=.returned (.bool (kw (bs s)))/\w'=w:=by
 have hl:(loadVar 250 ⟨2,0,none⟩).run Tryz.prog w=.ok (.agg WV) w:=rK 250 21 w 2 _ (by kernel_rfl) (by kernel_rfl) (by decide) ht.words
 clear ht
 go_enter Tryz.func189,Tryz.ntmps189
 go_wp2_with (refine bI rfl 250 (.global 2) rfl ⟨2,0,none⟩ rfl (.agg WV) hl ?_;clear hl)
 go_loop [6] (fun i=>∃k:Nat,k≤21/\i=.int .i64 k/\Hid (∀j,j<k->words.getD j []≠bs s)) (fun i=>21-(intOf i).toNat)
 case atStart=>exact ⟨0,by omega,rfl,fun j hj=>absurd hj (by omega)⟩
 case round=>
  obtain ⟨k,hk,rfl,hr⟩:=hrel
  by_cases hlt:k<21
  ·obtain ⟨mb,hmb⟩:∃mb:ByteArray,mb=⟨(words.getD k []).toArray⟩:=⟨_,rfl⟩
   have hix:∀w,(Instr.index 250 (.agg WV) (.int .i64 k)).run Tryz.prog w=.ok (.string mb) w:=by
    intro w;rw[hmb];exact X6 k hlt w
   have HMB:Hid (bs mb=words.getD k []):=by
    show _=_;rw[hmb]
   clear hmb
   by_cases heq:bs mb=bs s
   ·have h1:=qX mb s heq
    have H:Hid (kw (bs s)=true):=by rw[Hid,<-heq,HMB.out];exact cE0 k hlt
    clear heq
    go_wp2
    go_ret
    exact ⟨lP H.out.symm,rfl⟩
   ·have h1:=vP mb s heq
    have H:Hid (∀j,j<k+1->words.getD j []≠bs s):=by
     intro j hjk
     by_cases e:j=k
     ·subst e;rw[<-HMB.out];exact heq
     ·exact hr.out j (by omega)
    clear heq
    go_wp2
    go_round
    case rel=>exact ⟨k+1,by omega,by go_num,H⟩
    case measure=>simp[intOf];omega
  ·have H:Hid (kw (bs s)=false):=cK4 _ (fun j hj=>hr.out j (by omega))
   go_wp2
   go_ret
   exact ⟨lP H.out.symm,rfl⟩
def KV:Array Value:=(kindsL.map sv).toArray
theorem Ef (w:World):(Instr.index 251 (.agg KV) (.int .i64 0)).run Tryz.prog w=.ok (sv (kindsL.getD 0 [])) w:=by kernel_rfl
theorem Ee (w:World):(Instr.index 251 (.agg KV) (.int .i64 1)).run Tryz.prog w=.ok (sv (kindsL.getD 1 [])) w:=by kernel_rfl
theorem Ed (w:World):(Instr.index 251 (.agg KV) (.int .i64 2)).run Tryz.prog w=.ok (sv (kindsL.getD 2 [])) w:=by kernel_rfl
theorem Ec (w:World):(Instr.index 251 (.agg KV) (.int .i64 3)).run Tryz.prog w=.ok (sv (kindsL.getD 3 [])) w:=by kernel_rfl
theorem X9 (k:Nat) (hk:k<4) (w:World):(Instr.index 251 (.agg KV) (.int .i64 k)).run Tryz.prog w=.ok (sv (kindsL.getD k [])) w:=by
 match k,hk with
 | 0,_=>exact Ef w
 | 1,_=>exact Ee w
 | 2,_=>exact Ed w
 | 3,_=>exact Ec w
 | k+4,h=>omega
theorem aU2 (k:Nat) (h:k<4):dO (kindsL.getD k [])=k:=by
 have:∀k:Fin 4,dO (kindsL.getD k.val [])=k.val:=by decide
 exact this ⟨k,h⟩
theorem V8 (s:bA) (h:∀j,j<4->kindsL.getD j []≠s):dO s=0:=by
 unfold dO
 rw[if_neg (fun e=>h 1 (by omega) e.symm),if_neg (fun e=>h 2 (by omega) e.symm),if_neg (fun e=>h 3 (by omega) e.symm)]
theorem aH0 (s:ByteArray) (w:World) (ht:pJ w):Calls Tryz.prog 136 #[.string s] w fun e w'=>e=.returned (.int .i64 (dO (bs s):Nat))/\w'=w:=by
 have hl:(loadVar 251 ⟨1,0,none⟩).run Tryz.prog w=.ok (.agg KV) w:=rK 251 4 w 1 _ (by kernel_rfl) (by kernel_rfl) (by decide) ht.kinds
 clear ht
 go_enter Tryz.func136,Tryz.ntmps136
 go_wp2_with (refine bI rfl 251 (.global 1) rfl ⟨1,0,none⟩ rfl (.agg KV) hl ?_;clear hl)
 go_loop [6] (fun i=>∃k:Nat,k≤4/\i=.int .i64 k/\Hid (∀j,j<k->kindsL.getD j []≠bs s)) (fun i=>4-(intOf i).toNat)
 case atStart=>exact ⟨0,by omega,rfl,fun j hj=>absurd hj (by omega)⟩
 case round=>
  obtain ⟨k,hk,rfl,hr⟩:=hrel
  by_cases hlt:k<4
  ·obtain ⟨mb,hmb⟩:∃mb:ByteArray,mb=⟨(kindsL.getD k []).toArray⟩:=⟨_,rfl⟩
   have hix:∀w,(Instr.index 251 (.agg KV) (.int .i64 k)).run Tryz.prog w=.ok (.string mb) w:=by
    intro w;rw[hmb];exact X9 k hlt w
   have HMB:Hid (bs mb=kindsL.getD k []):=by
    show _=_;rw[hmb]
   clear hmb
   by_cases heq:bs mb=bs s
   ·have h1:=qX mb s heq
    have H:Hid (dO (bs s)=k):=by rw[Hid,<-heq,HMB.out];exact aU2 k hlt
    clear heq
    go_wp2
    go_ret
    exact ⟨fE (by rw[H.out]),rfl⟩
   ·have h1:=vP mb s heq
    have H:Hid (∀j,j<k+1->kindsL.getD j []≠bs s):=by
     intro j hjk
     by_cases e:j=k
     ·subst e;rw[<-HMB.out];exact heq
     ·exact hr.out j (by omega)
    clear heq
    go_wp2
    go_round
    case rel=>exact ⟨k+1,by omega,by go_num,H⟩
    case measure=>simp[intOf];omega
  ·have H:Hid (dO (bs s)=0):=V8 _ (fun j hj=>hr.out j (by omega))
   go_wp2
   go_ret
   exact ⟨fE (by rw[H.out];rfl),rfl⟩
def LV:Array Value:=(leadsL.map sv).toArray
theorem Eb (w:World):(Instr.index 344 (.agg LV) (.int .i64 0)).run Tryz.prog w=.ok (sv (leadsL.getD 0 [])) w:=by kernel_rfl
theorem Ea (w:World):(Instr.index 344 (.agg LV) (.int .i64 1)).run Tryz.prog w=.ok (sv (leadsL.getD 1 [])) w:=by kernel_rfl
theorem Dz (w:World):(Instr.index 344 (.agg LV) (.int .i64 2)).run Tryz.prog w=.ok (sv (leadsL.getD 2 [])) w:=by kernel_rfl
theorem X8 (k:Nat) (hk:k<3) (w:World):(Instr.index 344 (.agg LV) (.int .i64 k)).run Tryz.prog w=.ok (sv (leadsL.getD k [])) w:=by
 match k,hk with
 | 0,_=>exact Eb w
 | 1,_=>exact Ea w
 | 2,_=>exact Dz w
 | k+3,h=>omega
theorem aU0 (k:Nat) (h:k<3):cG (leadsL.getD k [])=some k:=by
 have:∀k:Fin 3,cG (leadsL.getD k.val [])=some k.val:=by decide
 exact this ⟨k,h⟩
theorem V5 (s:bA) (h:∀j,j<3->leadsL.getD j []≠s):cG s=none:=by
 unfold cG
 rw[if_neg (fun e=>h 0 (by omega) e.symm),if_neg (fun e=>h 1 (by omega) e.symm),if_neg (fun e=>h 2 (by omega) e.symm)]
def pR:Option Nat->Value
 | some k=>.tuple #[.int .i64 k,.bool true]
 | none=>.tuple #[.int .i64 0,.bool false]
theorem aG7 (s:ByteArray) (w:World) (ht:pJ w):Calls Tryz.prog 251 #[.string s] w fun e w'=>e=.returned (pR (cG (bs s)))/\w'=w:=by
 have hl:(loadVar 344 ⟨3,0,none⟩).run Tryz.prog w=.ok (.agg LV) w:=rK 344 3 w 3 _ (by kernel_rfl) (by kernel_rfl) (by decide) ht.leads
 clear ht
 go_enter Tryz.func251,Tryz.ntmps251
 go_wp2_with (refine bI rfl 344 (.global 3) rfl ⟨3,0,none⟩ rfl (.agg LV) hl ?_;clear hl)
 go_loop [7] (fun i=>∃k:Nat,k≤3/\i=.int .i64 k/\Hid (∀j,j<k->leadsL.getD j []≠bs s)) (fun i=>3-(intOf i).toNat)
 case atStart=>exact ⟨0,by omega,rfl,fun j hj=>absurd hj (by omega)⟩
 case round=>
  obtain ⟨k,hk,rfl,hr⟩:=hrel
  by_cases hlt:k<3
  ·obtain ⟨mb,hmb⟩:∃mb:ByteArray,mb=⟨(leadsL.getD k []).toArray⟩:=⟨_,rfl⟩
   have hix:∀w,(Instr.index 344 (.agg LV) (.int .i64 k)).run Tryz.prog w=.ok (.string mb) w:=by
    intro w;rw[hmb];exact X8 k hlt w
   have HMB:Hid (bs mb=leadsL.getD k []):=by
    show _=_;rw[hmb]
   clear hmb
   by_cases heq:bs mb=bs s
   ·have h1:=qX mb s heq
    have H:Hid (cG (bs s)=some k):=by rw[Hid,<-heq,HMB.out];exact aU0 k hlt
    clear heq
    go_wp2
    go_ret2
    exact ⟨by rw[H.out];rfl,rfl⟩
   ·have h1:=vP mb s heq
    have H:Hid (∀j,j<k+1->leadsL.getD j []≠bs s):=by
     intro j hjk
     by_cases e:j=k
     ·subst e;rw[<-HMB.out];exact heq
     ·exact hr.out j (by omega)
    clear heq
    go_wp2
    go_round
    case rel=>exact ⟨k+1,by omega,by go_num,H⟩
    case measure=>simp[intOf];omega
  ·have H:Hid (cG (bs s)=none):=V5 _ (fun j hj=>hr.out j (by omega))
   go_wp2
   go_ret2
   exact ⟨by rw[H.out];rfl,rfl⟩
def AV:Array Value:=(aheadL.flatMap mZ).toArray
theorem Ex (w:World):(Instr.index 360 (.agg AV) (.int .i64 0)).run Tryz.prog w=.ok (.agg (mZ (aheadL.getD 0 ([],0))).toArray) w:=by kernel_rfl
theorem Ev (w:World):(Instr.index 360 (.agg AV) (.int .i64 1)).run Tryz.prog w=.ok (.agg (mZ (aheadL.getD 1 ([],0))).toArray) w:=by kernel_rfl
theorem Y0 (k:Nat) (hk:k<2) (w:World):(Instr.index 360 (.agg AV) (.int .i64 k)).run Tryz.prog w=.ok (.agg (mZ (aheadL.getD k ([],0))).toArray) w:=by
 match k,hk with
 | 0,_=>exact Ex w
 | 1,_=>exact Ev w
 | k+2,h=>omega
theorem F5 (k:Nat) (h:k<2):bG (aheadL.getD k ([],0)).1=(aheadL.getD k ([],0)).2:=by
 have:∀k:Fin 2,bG (aheadL.getD k.val ([],0)).1=(aheadL.getD k.val ([],0)).2:=by decide
 exact this ⟨k,h⟩
theorem wY (s:bA) (h:∀j,j<2->(aheadL.getD j ([],0)).1≠s):bG s=0:=by
 unfold bG
 rw[if_neg (fun e=>h 0 (by omega) e.symm),if_neg (fun e=>h 1 (by omega) e.symm)]
theorem xW (s:ByteArray) (w:World) (ht:pJ w):Calls Tryz.prog 281 #[.string s] w fun e w'=>e=.returned (.int .i64 (bG (bs s):Nat))/\Below w.heap.size w w':=by
 have hl:(loadVar 360 ⟨7,0,none⟩).run Tryz.prog w=.ok (.agg AV) w:=rK 360 4 w 7 _ (by kernel_rfl) (by kernel_rfl) (by decide) ht.ahead
 clear ht
 go_enter Tryz.func281,Tryz.ntmps281
 go_wp2_with (refine bI rfl 360 (.global 7) rfl ⟨7,0,none⟩ rfl (.agg AV) hl ?_;clear hl)
 go_loopg [6] 2 (fun g i wr=>∃k:Nat,g=2-k/\k≤2/\i=.int .i64 k/\Hid (∀j,j<k->(aheadL.getD j ([],0)).1≠bs s)/\Below w.heap.size w wr)
 case atStart=>exact ⟨0,by omega,by omega,rfl,fun j hj=>absurd hj (by omega),Below.refl _ _⟩
 case round=>
  obtain ⟨k,rfl,hk,rfl,hr,hbw⟩:=hrel
  have hwb:=hbw.size
  by_cases hlt:k<2
  ·obtain ⟨mb,c,hmb,hc⟩:∃(mb:ByteArray) (c:Nat),mb=⟨(aheadL.getD k ([],0)).1.toArray⟩/\c=(aheadL.getD k ([],0)).2:=⟨_,_,rfl,rfl⟩
   have hix:∀w,(Instr.index 360 (.agg AV) (.int .i64 k)).run Tryz.prog w=.ok (.agg #[.string mb,.int .i64 c]) w:=by
    intro w;rw[hmb,hc];exact Y0 k hlt w
   have HMB:Hid (bs mb=(aheadL.getD k ([],0)).1):=by
    show _=_;rw[hmb]
   have HC:Hid (c=(aheadL.getD k ([],0)).2):=hc
   clear hmb hc
   by_cases heq:bs mb=bs s
   ·have h1:=qX mb s heq
    have H:Hid (bG (bs s)=c):=by rw[Hid,<-heq,HMB.out,HC.out];exact F5 k hlt
    clear heq
    go_wp2
    go_ret
    exact ⟨fE (by rw[H.out]),hbw.alloc hwb _⟩
   ·have h1:=vP mb s heq
    have H:Hid (∀j,j<k+1->(aheadL.getD j ([],0)).1≠bs s):=by
     intro j hjk
     by_cases e:j=k
     ·subst e;rw[<-HMB.out];exact heq
     ·exact hr.out j (by omega)
    clear heq
    go_wp2
    go_roundg (2-(k+1))
    case measure=>omega
    case rel=>exact ⟨k+1,rfl,by omega,by go_num,H,hbw.alloc hwb _⟩
  ·have H:Hid (bG (bs s)=0):=wY _ (fun j hj=>hr.out j (by omega))
   go_wp2
   go_ret
   exact ⟨fE (by rw[H.out];rfl),hbw⟩
def BV (t:Nat):Array Value:=((betweenL.getD t []).flatMap mZ).toArray
def iP (t k:Nat):bA×Nat:=(betweenL.getD t []).getD k ([],0)
theorem cV2 (w:World):(Instr.index 357 (.agg (BV 0)) (.int .i64 0)).run Tryz.prog w=.ok (.agg #[sv (iP 0 0).1,.int .i64 (iP 0 0).2]) w:=by kernel_rfl
theorem cV1 (w:World):(Instr.index 357 (.agg (BV 0)) (.int .i64 1)).run Tryz.prog w=.ok (.agg #[sv (iP 0 1).1,.int .i64 (iP 0 1).2]) w:=by kernel_rfl
theorem cV0 (w:World):(Instr.index 357 (.agg (BV 0)) (.int .i64 2)).run Tryz.prog w=.ok (.agg #[sv (iP 0 2).1,.int .i64 (iP 0 2).2]) w:=by kernel_rfl
theorem cU9 (w:World):(Instr.index 357 (.agg (BV 0)) (.int .i64 3)).run Tryz.prog w=.ok (.agg #[sv (iP 0 3).1,.int .i64 (iP 0 3).2]) w:=by kernel_rfl
theorem cU8 (w:World):(Instr.index 357 (.agg (BV 1)) (.int .i64 0)).run Tryz.prog w=.ok (.agg #[sv (iP 1 0).1,.int .i64 (iP 1 0).2]) w:=by kernel_rfl
theorem cU7 (w:World):(Instr.index 357 (.agg (BV 1)) (.int .i64 1)).run Tryz.prog w=.ok (.agg #[sv (iP 1 1).1,.int .i64 (iP 1 1).2]) w:=by kernel_rfl
theorem cU6 (w:World):(Instr.index 357 (.agg (BV 1)) (.int .i64 2)).run Tryz.prog w=.ok (.agg #[sv (iP 1 2).1,.int .i64 (iP 1 2).2]) w:=by kernel_rfl
theorem cU5 (w:World):(Instr.index 357 (.agg (BV 1)) (.int .i64 3)).run Tryz.prog w=.ok (.agg #[sv (iP 1 3).1,.int .i64 (iP 1 3).2]) w:=by kernel_rfl
theorem cU4 (w:World):(Instr.index 357 (.agg (BV 2)) (.int .i64 0)).run Tryz.prog w=.ok (.agg #[sv (iP 2 0).1,.int .i64 (iP 2 0).2]) w:=by kernel_rfl
theorem cU3 (w:World):(Instr.index 357 (.agg (BV 2)) (.int .i64 1)).run Tryz.prog w=.ok (.agg #[sv (iP 2 1).1,.int .i64 (iP 2 1).2]) w:=by kernel_rfl
theorem cU2 (w:World):(Instr.index 357 (.agg (BV 2)) (.int .i64 2)).run Tryz.prog w=.ok (.agg #[sv (iP 2 2).1,.int .i64 (iP 2 2).2]) w:=by kernel_rfl
theorem cU1 (w:World):(Instr.index 357 (.agg (BV 2)) (.int .i64 3)).run Tryz.prog w=.ok (.agg #[sv (iP 2 3).1,.int .i64 (iP 2 3).2]) w:=by kernel_rfl
theorem cU0 (w:World):(Instr.index 357 (.agg (BV 3)) (.int .i64 0)).run Tryz.prog w=.ok (.agg #[sv (iP 3 0).1,.int .i64 (iP 3 0).2]) w:=by kernel_rfl
theorem cT9 (w:World):(Instr.index 357 (.agg (BV 3)) (.int .i64 1)).run Tryz.prog w=.ok (.agg #[sv (iP 3 1).1,.int .i64 (iP 3 1).2]) w:=by kernel_rfl
theorem cT8 (w:World):(Instr.index 357 (.agg (BV 3)) (.int .i64 2)).run Tryz.prog w=.ok (.agg #[sv (iP 3 2).1,.int .i64 (iP 3 2).2]) w:=by kernel_rfl
theorem cT7 (w:World):(Instr.index 357 (.agg (BV 3)) (.int .i64 3)).run Tryz.prog w=.ok (.agg #[sv (iP 3 3).1,.int .i64 (iP 3 3).2]) w:=by kernel_rfl
theorem cT6 (w:World):(Instr.index 357 (.agg (BV 4)) (.int .i64 0)).run Tryz.prog w=.ok (.agg #[sv (iP 4 0).1,.int .i64 (iP 4 0).2]) w:=by kernel_rfl
theorem cT5 (w:World):(Instr.index 357 (.agg (BV 4)) (.int .i64 1)).run Tryz.prog w=.ok (.agg #[sv (iP 4 1).1,.int .i64 (iP 4 1).2]) w:=by kernel_rfl
theorem cT4 (w:World):(Instr.index 357 (.agg (BV 4)) (.int .i64 2)).run Tryz.prog w=.ok (.agg #[sv (iP 4 2).1,.int .i64 (iP 4 2).2]) w:=by kernel_rfl
theorem cT3 (w:World):(Instr.index 357 (.agg (BV 4)) (.int .i64 3)).run Tryz.prog w=.ok (.agg #[sv (iP 4 3).1,.int .i64 (iP 4 3).2]) w:=by kernel_rfl
theorem aV1 (t k:Nat) (ht:t<5) (hk:k<4) (w:World):(Instr.index 357 (.agg (BV t)) (.int .i64 k)).run Tryz.prog w=.ok (.agg #[sv (iP t k).1,.int .i64 (iP t k).2]) w:=by
 match t,ht,k,hk with
 | 0,_,0,_=>exact cV2 w
 | 0,_,1,_=>exact cV1 w
 | 0,_,2,_=>exact cV0 w
 | 0,_,3,_=>exact cU9 w
 | 1,_,0,_=>exact cU8 w
 | 1,_,1,_=>exact cU7 w
 | 1,_,2,_=>exact cU6 w
 | 1,_,3,_=>exact cU5 w
 | 2,_,0,_=>exact cU4 w
 | 2,_,1,_=>exact cU3 w
 | 2,_,2,_=>exact cU2 w
 | 2,_,3,_=>exact cU1 w
 | 3,_,0,_=>exact cU0 w
 | 3,_,1,_=>exact cT9 w
 | 3,_,2,_=>exact cT8 w
 | 3,_,3,_=>exact cT7 w
 | 4,_,0,_=>exact cT6 w
 | 4,_,1,_=>exact cT5 w
 | 4,_,2,_=>exact cT4 w
 | 4,_,3,_=>exact cT3 w
 | t+5,h,_,_=>omega
 | _,_,k+4,h=>omega
theorem aX0 (t k:Nat) (ht:t<5) (h:k<4) (h0:(iP t k).2≠0):aK3 t (iP t k).1=(iP t k).2:=by
 have:∀(t:Fin 5) (k:Fin 4),(iP t.val k.val).2≠0->aK3 t.val (iP t.val k.val).1=(iP t.val k.val).2:=by decide
 exact this ⟨t,ht⟩ ⟨k,h⟩ h0
theorem cH7:∀(l:List (bA×Nat)) (s:bA),(∀p∈l,p.2≠0->p.1≠s)->(∀p∈l,p.2≠0)->qH l s=0:=by
 intro l
 induction l with
 | nil=>intro s _ _;rfl
 | cons p r ih=>
  intro s h h0
  obtain ⟨t,c⟩:=p
  rw[qH,if_neg (h (t,c) (by simp) (h0 (t,c) (by simp)))]
  exact ih s (fun p hp=>h p (by simp[hp])) (fun p hp=>h0 p (by simp[hp]))
theorem yN:∀(t:Fin 5) (p:bA×Nat),p∈signs.getD t.val []->p.2≠0:=by decide
theorem aR0:∀(t:Fin 5) (p:bA×Nat),p∈signs.getD t.val []->∃k:Fin 4,p=iP t.val k.val:=by decide
theorem o7 (t:Nat) (ht:t<5) (s:bA) (h:∀k,k<4->(iP t k).2≠0->(iP t k).1≠s):aK3 t s=0:=by
 refine cH7 _ s (fun p hp _=>?_) (yN ⟨t,ht⟩)
 obtain ⟨k,rfl⟩:=aR0 ⟨t,ht⟩ p hp
 exact h k.val k.isLt (yN ⟨t,ht⟩ _ hp)
theorem aR6 (t:Nat) (ht:t<5):∀j v,((betweenL.getD t []).flatMap mZ)[j]?=some v->(betweenL.flatMap (·.flatMap mZ))[t*8+j]?=some v:=by
 intro j v hv
 have hj:j<8:=by
  have:=(List.getElem?_eq_some_iff.1 hv).1
  have e:∀t:Fin 5,((betweenL.getD t.val []).flatMap mZ).length=8:=by decide
  rw[e ⟨t,ht⟩] at this;exact this
 rw[<-hv]
 match t,ht,j,hj with
 | 0,_,0,_=>rfl
 | 0,_,1,_=>rfl
 | 0,_,2,_=>rfl
 | 0,_,3,_=>rfl
 | 0,_,4,_=>rfl
 | 0,_,5,_=>rfl
 | 0,_,6,_=>rfl
 | 0,_,7,_=>rfl
 | 1,_,0,_=>rfl
 | 1,_,1,_=>rfl
 | 1,_,2,_=>rfl
 | 1,_,3,_=>rfl
 | 1,_,4,_=>rfl
 | 1,_,5,_=>rfl
 | 1,_,6,_=>rfl
 | 1,_,7,_=>rfl
 | 2,_,0,_=>rfl
 | 2,_,1,_=>rfl
 | 2,_,2,_=>rfl
 | 2,_,3,_=>rfl
 | 2,_,4,_=>rfl
 | 2,_,5,_=>rfl
 | 2,_,6,_=>rfl
 | 2,_,7,_=>rfl
 | 3,_,0,_=>rfl
 | 3,_,1,_=>rfl
 | 3,_,2,_=>rfl
 | 3,_,3,_=>rfl
 | 3,_,4,_=>rfl
 | 3,_,5,_=>rfl
 | 3,_,6,_=>rfl
 | 3,_,7,_=>rfl
 | 4,_,0,_=>rfl
 | 4,_,1,_=>rfl
 | 4,_,2,_=>rfl
 | 4,_,3,_=>rfl
 | 4,_,4,_=>rfl
 | 4,_,5,_=>rfl
 | 4,_,6,_=>rfl
 | 4,_,7,_=>rfl
 | t+5,h,_,_=>omega
 | _,_,j+8,h=>omega
theorem bG6 {w:World}(h:pJ w) (t:Nat) (ht:t<5):(loadVar 357 ⟨6,t*8,none⟩).run Tryz.prog w=.ok (.agg (BV t)) w:=
 wJ 357 8 w 6 (t*8) _ (by kernel_rfl) (by kernel_rfl) (by have e:∀t:Fin 5,((betweenL.getD t.val []).flatMap mZ).length=8:=by decide
                                                          exact e ⟨t,ht⟩) (fun j v hv=>h.between _ v (aR6 t ht j v hv))
theorem uF (s:ByteArray) (t:Nat) (ht5:t<5) (w:World) (ht:pJ w):Calls Tryz.prog 278 #[.string s,.int .i64 t] w fun e w'=>e=.returned (.int .i64 (aK3 t (bs s):Nat))/\Below w.heap.size w w':=by
 have hl:=bG6 ht t ht5
 have hcl:∀B:List Value,B=betweenL.flatMap (·.flatMap mZ)->True:=fun _ _=>trivial
 clear ht hcl
 go_enter Tryz.func278,Tryz.ntmps278
 go_wp2_with (refine bI rfl 357 (.tmp 8) rfl ⟨6,t*8,none⟩ rfl (.agg (BV t)) hl ?_;clear hl)
 go_loopg [10] 4 (fun g i wr=>∃k:Nat,g=4-k/\k≤4/\i=.int .i64 k/\Hid (∀j,j<k->(iP t j).2≠0->(iP t j).1≠bs s)/\Below w.heap.size w wr)
 case atStart=>exact ⟨0,by omega,by omega,rfl,fun j hj=>absurd hj (by omega),Below.refl _ _⟩
 case round=>
  obtain ⟨k,rfl,hk,rfl,hr,hbw⟩:=hrel
  have hwb:=hbw.size
  by_cases hlt:k<4
  ·obtain ⟨mb,c,hmb,hc⟩:∃(mb:ByteArray) (c:Nat),mb=⟨(iP t k).1.toArray⟩/\c=(iP t k).2:=⟨_,_,rfl,rfl⟩
   have hix:∀w,(Instr.index 357 (.agg (BV t)) (.int .i64 k)).run Tryz.prog w=.ok (.agg #[.string mb,.int .i64 c]) w:=by
    intro w;rw[hmb,hc];exact aV1 t k ht5 hlt w
   have HMB:Hid (bs mb=(iP t k).1):=by
    show _=_;rw[hmb]
   have HC:Hid (c=(iP t k).2):=hc
   clear hmb hc
   by_cases hc0:c=0
   ·subst hc0
    have H:Hid (∀j,j<k+1->(iP t j).2≠0->(iP t j).1≠bs s):=by
     intro j hjk
     by_cases e:j=k
     ·subst e;intro h;exact absurd HC.out.symm h
     ·exact hr.out j (by omega)
    go_wp2
    go_roundg (4-(k+1))
    case measure=>omega
    case rel=>exact ⟨k+1,rfl,by omega,by go_num,H,hbw.alloc hwb _⟩
   ·have hc1:¬(c:Int)=0:=by omega
    have hc2:((c:Int) != 0)=true:=by simpa using hc1
    by_cases heq:bs mb=bs s
    ·have h1:=qX mb s heq
     have H:Hid (aK3 t (bs s)=c):=by rw[Hid,<-heq,HMB.out,HC.out];exact aX0 t k ht5 hlt (by rw[<-HC.out];exact hc0)
     clear heq
     go_wp2
     go_ret
     exact ⟨fE (by rw[H.out]),hbw.alloc hwb _⟩
    ·have h1:=vP mb s heq
     have H:Hid (∀j,j<k+1->(iP t j).2≠0->(iP t j).1≠bs s):=by
      intro j hjk
      by_cases e:j=k
      ·subst e;intro _;rw[<-HMB.out];exact heq
      ·exact hr.out j (by omega)
     clear heq
     go_wp2
     go_roundg (4-(k+1))
     case measure=>omega
     case rel=>exact ⟨k+1,rfl,by omega,by go_num,H,hbw.alloc hwb _⟩
  ·have H:Hid (aK3 t (bs s)=0):=o7 t ht5 _ (fun j hj=>hr.out j (by omega))
   go_wp2
   go_ret
   exact ⟨fE (by rw[H.out];rfl),hbw⟩
end Go.Proofs.YtcdbhoknhnimcaaGreatDoor
