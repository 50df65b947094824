import Derived.Test.YtcdbhoknhnimcaaGreatDoorTSmall
import Derived.Shelf.LaysM
import Derived.Shelf.Strconv.Clone
import Derived.Shelf.Strings.Prefix
import Derived.Test.YtcdbhoknhnimcaaGreatDoorProg
import Derived.Laws.EntriesVeiled
set_option maxRecDepth 100000
set_option maxHeartbeats 1600000
namespace Go.Proofs.YtcdbhoknhnimcaaGreatDoor
section
open Go.RowKit
abbrev bs (s:ByteArray):List UInt8:=s.data.toList
theorem Aj (s:ByteArray) (k:Nat) (h:k<s.size):(bs s)[k]?=some s[k]:=by
 rw[List.getElem?_eq_getElem (by simpa using h)];rfl
theorem fJ (s:ByteArray):(bs s).length=s.size:=by simp
theorem fG {k:IntKind}{a b:Int}(h:a=b):Ending.returned (.int k a)=.returned (.int k b):=by rw[h]
theorem Nl (s:ByteArray) (a:Nat) (w:World) (hs:s.size≤1000000) (ha:a≤s.size) :
    Calls Tryz.prog 183 #[.string s,.int .i64 a,.func (.func 184) #[] #[]] w fun e w'=>e=.returned (.int .i64 (Lx.gZ Lx.inl (bs s) a:Nat))/\w'=w:=by
 go_enter Tryz.func183,Tryz.ntmps183
 go_wp2
 go_loop [1] (fun i=>∃k:Nat,k≤s.size/\i=.int .i64 k/\Hid (Lx.gZ Lx.inl (bs s) a=Lx.gZ Lx.inl (bs s) k)) (fun i=>s.size-(intOf i).toNat)
 case atStart=>exact ⟨a,ha,rfl,rfl⟩
 case round=>
  obtain ⟨k,hk,rfl,hr⟩:=hrel
  by_cases hlt:k<s.size
  ·have hc:=Aj s k hlt
   have HC:Hid _:=hc
   clear hc
   by_cases hp:Lx.inl s[k]=true
   ·go_wp2_with (go_at_call 184;refine (xR _ _).mono ?_;rintro e w' ⟨rfl,rfl⟩)
    go_round
    case rel=>exact ⟨k+1,by omega,by go_num,hr.out.trans (Lx.tH HC.out hp)⟩
    case measure=>simp[intOf];omega
   ·have hp':Lx.inl s[k]=false:=by simpa using hp
    clear hp
    go_wp2_with (go_at_call 184;refine (xR _ _).mono ?_;rintro e w' ⟨rfl,rfl⟩)
    go_ret
    exact ⟨fG (by rw[hr.out,Lx.wT HC.out hp']),rfl⟩
  ·go_wp2
   go_ret
   exact ⟨fG (by rw[hr.out,Lx.tI (by rw[fJ];omega)]),rfl⟩
theorem Cc (s:ByteArray) (a:Nat) (w:World) (hs:s.size≤1000000) (ha:a≤s.size) :
    Calls Tryz.prog 183 #[.string s,.int .i64 a,.func (.func 185) #[] #[]] w fun e w'=>e=.returned (.int .i64 (Lx.gZ Lx.gQ (bs s) a:Nat))/\w'=w:=by
 go_enter Tryz.func183,Tryz.ntmps183
 go_wp2
 go_loop [1] (fun i=>∃k:Nat,k≤s.size/\i=.int .i64 k/\Hid (Lx.gZ Lx.gQ (bs s) a=Lx.gZ Lx.gQ (bs s) k)) (fun i=>s.size-(intOf i).toNat)
 case atStart=>exact ⟨a,ha,rfl,rfl⟩
 case round=>
  obtain ⟨k,hk,rfl,hr⟩:=hrel
  by_cases hlt:k<s.size
  ·have hc:=Aj s k hlt
   have HC:Hid _:=hc
   clear hc
   by_cases hp:Lx.gQ s[k]=true
   ·go_wp2_with (go_at_call 185;refine (jF _ _).mono ?_;rintro e w' ⟨rfl,rfl⟩)
    go_round
    case rel=>exact ⟨k+1,by omega,by go_num,hr.out.trans (Lx.tH HC.out hp)⟩
    case measure=>simp[intOf];omega
   ·have hp':Lx.gQ s[k]=false:=by simpa using hp
    clear hp
    go_wp2_with (go_at_call 185;refine (jF _ _).mono ?_;rintro e w' ⟨rfl,rfl⟩)
    go_ret
    exact ⟨fG (by rw[hr.out,Lx.wT HC.out hp']),rfl⟩
  ·go_wp2
   go_ret
   exact ⟨fG (by rw[hr.out,Lx.tI (by rw[fJ];omega)]),rfl⟩
theorem Ik (s:ByteArray) (a:Nat) (w:World) (hs:s.size≤1000000) (ha:a≤s.size) :
    Calls Tryz.prog 183 #[.string s,.int .i64 a,.func (.func 186) #[] #[]] w fun e w'=>e=.returned (.int .i64 (Lx.gZ Lx.oK (bs s) a:Nat))/\w'=w:=by
 go_enter Tryz.func183,Tryz.ntmps183
 go_wp2
 go_loop [1] (fun i=>∃k:Nat,k≤s.size/\i=.int .i64 k/\Hid (Lx.gZ Lx.oK (bs s) a=Lx.gZ Lx.oK (bs s) k)) (fun i=>s.size-(intOf i).toNat)
 case atStart=>exact ⟨a,ha,rfl,rfl⟩
 case round=>
  obtain ⟨k,hk,rfl,hr⟩:=hrel
  by_cases hlt:k<s.size
  ·have hc:=Aj s k hlt
   have HC:Hid _:=hc
   clear hc
   by_cases hp:Lx.oK s[k]=true
   ·go_wp2_with (go_at_call 186;refine (nL _ _).mono ?_;rintro e w' ⟨rfl,rfl⟩)
    go_round
    case rel=>exact ⟨k+1,by omega,by go_num,hr.out.trans (Lx.tH HC.out hp)⟩
    case measure=>simp[intOf];omega
   ·have hp':Lx.oK s[k]=false:=by simpa using hp
    clear hp
    go_wp2_with (go_at_call 186;refine (nL _ _).mono ?_;rintro e w' ⟨rfl,rfl⟩)
    go_ret
    exact ⟨fG (by rw[hr.out,Lx.wT HC.out hp']),rfl⟩
  ·go_wp2
   go_ret
   exact ⟨fG (by rw[hr.out,Lx.tI (by rw[fJ];omega)]),rfl⟩
end
section
open Go.RowKit
theorem R7 (s:ByteArray) (a:Nat) (w:World) (hs:s.size≤1000000) (ha:a≤s.size) :
    Calls Tryz.prog 128 #[.string s,.int .i64 a] w fun e w'=>e=.returned (.int .i64 (Lx.fH (bs s) a:Nat))/\w'=w:=by
 go_enter Tryz.func128,Tryz.ntmps128
 go_wp2
 go_loop [1] (fun i=>∃k:Nat,k≤s.size/\i=.int .i64 k/\Hid (Lx.fH (bs s) a=Lx.fH (bs s) k)) (fun i=>s.size-(intOf i).toNat)
 case atStart=>exact ⟨a,ha,rfl,rfl⟩
 case round=>
  obtain ⟨k,hk,rfl,hr⟩:=hrel
  by_cases hlt:k<s.size
  ·have HC:Hid _:=Aj s k hlt
   by_cases hb:Lx.sN s[k]=true
   ·go_wp2_with (go_at_call 182;refine (pE s[k] _).mono ?_;rintro e w' ⟨rfl,rfl⟩)
    go_round
    case rel=>exact ⟨k+1,by omega,by go_num,hr.out.trans (Lx.D3 HC.out hb)⟩
    case measure=>simp[intOf];omega
   ·have hb':Lx.sN s[k]=false:=by simpa using hb
    clear hb
    by_cases h35:(s[k].toNat:Int)=35
    ·have HH:Hid ((bs s)[k]?=some 35):=by
      rw[Hid,HC.out];congr 1;apply UInt8.toNat_inj.1;show _=35;omega
     have hle:=Lx.My (p:=Lx.inl) (s:=bs s) (k:=k) (by rw[fJ];omega)
     rw[fJ] at hle
     have hgt:=Lx.vB HH.out
     have H35:Hid _:=h35
     clear h35
     go_wp2_with (first|(go_at_call 182;refine (pE s[k] _).mono ?_;rintro e w' ⟨rfl,rfl⟩;have h35:=H35.out)|(go_at_call 183;refine (Nl s k _ hs (by omega)).mono ?_;rintro e w' ⟨rfl,rfl⟩))
     go_round
     case rel=>exact ⟨_,hle.2,rfl,hr.out.trans (Lx.yP HH.out)⟩
     case measure=>simp[intOf];omega
    ·have hn:s[k]≠35:=fun h=>h35 (by rw[h];rfl)
     have HN:Hid _:=hn
     clear hn
     go_wp2_with (first|(go_at_call 182;refine (pE s[k] _).mono ?_;rintro e w' ⟨rfl,rfl⟩))
     go_ret
     exact ⟨fG (by rw[hr.out,Lx.Hy HC.out hb' HN.out]),rfl⟩
  ·go_wp2
   go_ret
   exact ⟨fG (by rw[hr.out,Lx.Bt (by rw[fJ];omega)]),rfl⟩
end
end Go.Proofs.YtcdbhoknhnimcaaGreatDoor
namespace Go.Proofs
open Go.Shelf
def Tryz.laysM316_ren:Go.Shelf.Ren:=⟨fun|316=>188|n=>n,fun|9=>9|3=>3|4=>4|37=>99|0=>0|127=>291|5=>5|n=>n,fun|n=>n⟩
theorem Tryz.laysM316:Go.Proofs.LaysM.n316 Tryz.prog Tryz.laysM316_ren:={
 mixed:=by kernel_rfl
 f316:=Tryz.func188.trans (congrArg some (by kernel_rfl))
 t0:=Tryz.underlying0
 a0:=Tryz.isAgg0
 z0:=Tryz.sizeOf0
 v0:=Tryz.zeroValue0
 t3:=Tryz.underlying3
 a3:=Tryz.isAgg3
 z3:=Tryz.sizeOf3
 v3:=Tryz.zeroValue3
 t4:=Tryz.underlying4
 a4:=Tryz.isAgg4
 z4:=Tryz.sizeOf4
 v4:=Tryz.zeroValue4
 t9:=Tryz.underlying9
 a9:=Tryz.isAgg9
 z9:=Tryz.sizeOf9
 v9:=Tryz.zeroValue9
 t37:=Tryz.underlying99
 a37:=Tryz.isAgg99
 z37:=Tryz.sizeOf99
 v37:=Tryz.zeroValue99
 t127:=Tryz.underlying291
 a127:=Tryz.isAgg291
 z127:=Tryz.sizeOf291
 v127:=Tryz.zeroValue291
 t5:=Tryz.underlying5
 a5:=Tryz.isAgg5
 z5:=Tryz.sizeOf5
 v5:=Tryz.zeroValue5
 i0:=by kernel_rfl
 i3:=by kernel_rfl
 i4:=by kernel_rfl
 i5:=by kernel_rfl
 i9:=by kernel_rfl
 i37:=by kernel_rfl
 i127:=by kernel_rfl }
open Go.RowKit in
theorem Tryz.stringslite_Clone (s:ByteArray) (w:World) (hlim:s.size≤281474976710656) :
    Calls Tryz.prog 188 #[.string s] w fun e w'=>e=.returned (.string s)/\Below w.heap.size w w':=Any.stringslite_Clone Tryz.laysM316 s w hlim
def Tryz.lays99_ren:Go.Shelf.Ren:=⟨fun|99=>187|206=>125|n=>n,fun|9=>9|4=>4|3=>3|n=>n,fun|n=>n⟩
theorem Tryz.lays99:Go.Proofs.Lays.n99 Tryz.prog Tryz.lays99_ren:={
 mixed:=by kernel_rfl
 f99:=Tryz.func187.trans (congrArg some (by kernel_rfl))
 f206:=Tryz.func125.trans (congrArg some (by kernel_rfl))
 t3:=Tryz.underlying3
 a3:=Tryz.isAgg3
 z3:=Tryz.sizeOf3
 v3:=Tryz.zeroValue3
 t4:=Tryz.underlying4
 a4:=Tryz.isAgg4
 z4:=Tryz.sizeOf4
 v4:=Tryz.zeroValue4
 t9:=Tryz.underlying9
 a9:=Tryz.isAgg9
 z9:=Tryz.sizeOf9
 v9:=Tryz.zeroValue9 }
open Go.RowKit Go.Lib in
theorem Tryz.strings_HasPrefix (s p:ByteArray) (w:World) :
    Calls Tryz.prog 187 #[.string s,.string p] w fun e w'=>e=.returned (.bool (Lib.hasPrefix s.data.toList p.data.toList))/\w'=w:=Any.strings_HasPrefix Tryz.lays99 s p w
end Go.Proofs
namespace Go.Proofs.YtcdbhoknhnimcaaGreatDoor
section
open Go.RowKit
def fQ (m:List UInt8):Value:=.string ⟨m.toArray⟩
def lA (w:World):Prop:=∀i,i<21->w.cell? ⟨0,i,none⟩=some (fQ (Lx.marks.getD i []))
theorem Kk (kind len n:Nat) (w:World) (h1:kind≤3) (h2:len≤1000000) (h3:n≤600) :
    Calls Tryz.prog 130 #[.int .i64 kind,.int .i64 len,.int .i64 n] w fun e w'=>e=.returned (.int .i64 (Lx.Kf kind len n:Nat))/\w'=w:=by
 by_cases h:kind=0
 ·subst h
  go_enter Tryz.func130,Tryz.ntmps130
  go_wp2
  go_ret
  exact ⟨rfl,rfl⟩
 ·have hk:((kind:Int)==0)=false:=by simp;omega
  have hk':¬(kind:Int)=0:=by omega
  by_cases h4:kind=2
  ·subst h4
   by_cases h5:18<len
   ·go_enter Tryz.func130,Tryz.ntmps130
    go_wp2
    go_ret
    exact ⟨fG (by rw[Lx.Kf,if_neg (by decide),if_pos ⟨rfl,h5⟩];rfl),rfl⟩
   ·by_cases h6:600≤n
    all_goals
     go_enter Tryz.func130,Tryz.ntmps130
     go_wp2
     go_ret
     exact ⟨fG (by rw[Lx.Kf,if_neg (by decide),if_neg (fun h=>h5 h.2)];first|(rw[if_pos h6];rfl)|(rw[if_neg h6];rfl)),rfl⟩
  ·have h4':((kind:Int)==2)=false:=by simp;omega
   have h4'':¬(kind:Int)=2:=by omega
   by_cases h6:600≤n
   all_goals
    go_enter Tryz.func130,Tryz.ntmps130
    go_wp2
    go_ret
    exact ⟨fG (by rw[Lx.Kf,if_neg h,if_neg (fun h=>h4 h.1)];first|(rw[if_pos h6];rfl)|(rw[if_neg h6];rfl)),rfl⟩
def MV:Array Value:=(Lx.marks.map fQ).toArray
theorem Cq {w:World}(hm:lA w):(loadVar 250 ⟨0,0,none⟩).run Tryz.prog w=.ok (.agg MV) w:=by
 have hl:=run_loadCells_list (P:=Tryz.prog) w ⟨0,0,none⟩ (Lx.marks.map fQ) (fun j v hv=>by
  have hadd:(⟨0,0,none⟩:Addr).add j=⟨0,j,none⟩:=by unfold Addr.add;split<;>simp_all
  have hj:j<21:=by
   have:=(List.getElem?_eq_some_iff.1 hv).1;simpa [Lx.marks] using this
  rw[hadd,hm j hj,<-hv]
  simp[List.getD,Lx.marks.getElem?_eq_getElem (show j<Lx.marks.length from hj)])
 have hagg:(isAgg 250).run Tryz.prog w=.ok true w:=by kernel_rfl
 have hsz:(sizeOf 250).run Tryz.prog w=.ok 21 w:=by kernel_rfl
 have hl':(loadCells ⟨0,0,none⟩ 21).run Tryz.prog w=.ok (Lx.marks.map fQ).toArray w:=hl
 unfold loadVar
 rw[Sem.run_bind,hagg]
 simp only[Result.andThen,if_true,Sem.run_bind,hsz,hl']
 rfl
theorem ix0 (w:World):(Instr.index 250 (.agg MV) (.int .i64 0)).run Tryz.prog w=.ok (fQ (Lx.marks.getD 0 [])) w:=by kernel_rfl
theorem ix1 (w:World):(Instr.index 250 (.agg MV) (.int .i64 1)).run Tryz.prog w=.ok (fQ (Lx.marks.getD 1 [])) w:=by kernel_rfl
theorem ix2 (w:World):(Instr.index 250 (.agg MV) (.int .i64 2)).run Tryz.prog w=.ok (fQ (Lx.marks.getD 2 [])) w:=by kernel_rfl
theorem ix3 (w:World):(Instr.index 250 (.agg MV) (.int .i64 3)).run Tryz.prog w=.ok (fQ (Lx.marks.getD 3 [])) w:=by kernel_rfl
theorem ix4 (w:World):(Instr.index 250 (.agg MV) (.int .i64 4)).run Tryz.prog w=.ok (fQ (Lx.marks.getD 4 [])) w:=by kernel_rfl
theorem ix5 (w:World):(Instr.index 250 (.agg MV) (.int .i64 5)).run Tryz.prog w=.ok (fQ (Lx.marks.getD 5 [])) w:=by kernel_rfl
theorem ix6 (w:World):(Instr.index 250 (.agg MV) (.int .i64 6)).run Tryz.prog w=.ok (fQ (Lx.marks.getD 6 [])) w:=by kernel_rfl
theorem ix7 (w:World):(Instr.index 250 (.agg MV) (.int .i64 7)).run Tryz.prog w=.ok (fQ (Lx.marks.getD 7 [])) w:=by kernel_rfl
theorem ix8 (w:World):(Instr.index 250 (.agg MV) (.int .i64 8)).run Tryz.prog w=.ok (fQ (Lx.marks.getD 8 [])) w:=by kernel_rfl
theorem ix9 (w:World):(Instr.index 250 (.agg MV) (.int .i64 9)).run Tryz.prog w=.ok (fQ (Lx.marks.getD 9 [])) w:=by kernel_rfl
theorem aM5 (w:World):(Instr.index 250 (.agg MV) (.int .i64 10)).run Tryz.prog w=.ok (fQ (Lx.marks.getD 10 [])) w:=by kernel_rfl
theorem aM4 (w:World):(Instr.index 250 (.agg MV) (.int .i64 11)).run Tryz.prog w=.ok (fQ (Lx.marks.getD 11 [])) w:=by kernel_rfl
theorem aM3 (w:World):(Instr.index 250 (.agg MV) (.int .i64 12)).run Tryz.prog w=.ok (fQ (Lx.marks.getD 12 [])) w:=by kernel_rfl
theorem aM2 (w:World):(Instr.index 250 (.agg MV) (.int .i64 13)).run Tryz.prog w=.ok (fQ (Lx.marks.getD 13 [])) w:=by kernel_rfl
theorem aM1 (w:World):(Instr.index 250 (.agg MV) (.int .i64 14)).run Tryz.prog w=.ok (fQ (Lx.marks.getD 14 [])) w:=by kernel_rfl
theorem aM0 (w:World):(Instr.index 250 (.agg MV) (.int .i64 15)).run Tryz.prog w=.ok (fQ (Lx.marks.getD 15 [])) w:=by kernel_rfl
theorem aL9 (w:World):(Instr.index 250 (.agg MV) (.int .i64 16)).run Tryz.prog w=.ok (fQ (Lx.marks.getD 16 [])) w:=by kernel_rfl
theorem aL8 (w:World):(Instr.index 250 (.agg MV) (.int .i64 17)).run Tryz.prog w=.ok (fQ (Lx.marks.getD 17 [])) w:=by kernel_rfl
theorem aL7 (w:World):(Instr.index 250 (.agg MV) (.int .i64 18)).run Tryz.prog w=.ok (fQ (Lx.marks.getD 18 [])) w:=by kernel_rfl
theorem aL6 (w:World):(Instr.index 250 (.agg MV) (.int .i64 19)).run Tryz.prog w=.ok (fQ (Lx.marks.getD 19 [])) w:=by kernel_rfl
theorem aL5 (w:World):(Instr.index 250 (.agg MV) (.int .i64 20)).run Tryz.prog w=.ok (fQ (Lx.marks.getD 20 [])) w:=by kernel_rfl
theorem Y3 (k:Nat) (hk:k<21) (w:World):(Instr.index 250 (.agg MV) (.int .i64 k)).run Tryz.prog w=.ok (fQ (Lx.marks.getD k [])) w:=by
 match k,hk with
 | 0,_=>exact ix0 w
 | 1,_=>exact ix1 w
 | 2,_=>exact ix2 w
 | 3,_=>exact ix3 w
 | 4,_=>exact ix4 w
 | 5,_=>exact ix5 w
 | 6,_=>exact ix6 w
 | 7,_=>exact ix7 w
 | 8,_=>exact ix8 w
 | 9,_=>exact ix9 w
 | 10,_=>exact aM5 w
 | 11,_=>exact aM4 w
 | 12,_=>exact aM3 w
 | 13,_=>exact aM2 w
 | 14,_=>exact aM1 w
 | 15,_=>exact aM0 w
 | 16,_=>exact aL9 w
 | 17,_=>exact aL8 w
 | 18,_=>exact aL7 w
 | 19,_=>exact aL6 w
 | 20,_=>exact aL5 w
 | k+21,h=>omega
theorem yD (s:ByteArray) (a b:Nat):bs (s.extract a b)=((bs s).drop a).take (b-a):=by
 show (s.extract a b).data.toList=_
 rw[ByteArray.data_extract,Array.toList_extract]
theorem Wm (s:ByteArray) (a:Nat):bs (s.extract a s.size)=(bs s).drop a:=by
 rw[yD s a _,List.take_of_length_le (by simp)]
theorem sG (s mb:ByteArray) (a:Nat) (b:Bool) (w:World) (h:(bs mb).isPrefixOf ((bs s).drop a)=b) :
    Calls Tryz.prog 187 #[.string (s.extract a s.size),.string mb] w fun e w'=>e=.returned (.bool b)/\w'=w:=by
 refine (Tryz.strings_HasPrefix (s.extract a s.size) mb w).mono ?_
 rintro e w' ⟨rfl,rfl⟩
 exact ⟨by rw[<-h,<-Wm];rfl,rfl⟩
theorem Cp (k:Nat) (h:k<21):Lx.marks.drop k=Lx.marks.getD k []::Lx.marks.drop (k+1):=by
 have hl:=h
 rw[List.drop_eq_getElem_cons hl,List.getD_eq_getElem?_getD,List.getElem?_eq_getElem hl];rfl
theorem Iz (k:Nat) (h:k<21):0<(Lx.marks.getD k []).length:=by
 have:∀k:Fin 21,0<(Lx.marks.getD k.val []).length:=by decide
 exact this ⟨k,h⟩
theorem Fb (u:List UInt8) (c:UInt8) (hc:u.head?=some c) (hd:Lx.gQ c=false) (hw:Lx.oK c=false):Lx.rd u=if Lx.mk u=0 then (0,0) else (3,Lx.mk u):=by
 cases u with
 | nil=>simp at hc
 | cons x r=>simp at hc;subst hc;rw[Lx.mB,hd,hw];rfl
theorem zX (s:ByteArray) (a:Nat) (h:a<s.size):((bs s).drop a).head?=some s[a]:=by
 rw[List.head?_drop];exact Aj s a h
theorem bP {ops:Array Oper}{rest:List Oper}{o:Oper}{a:Act}{w:World}{Q:Exit->Act->World->Prop}(hgd:o.guard=none) (ty:TypeId) (x:Operand) (ho:o.op=.load ty x)
    (ad:Addr) (hx:a.eval x=.pointer (some ad)) (v:Value) (hl:(loadVar ty ad).run Tryz.prog w=.ok v w) (h:wpList Tryz.prog ops Q rest (a.put o.dst v) w):wpList Tryz.prog ops Q (o::rest) a w:=
 wpList_plain hgd fun K hK=>by
  unfold Oper.wp execOp
  simp only[ho,hx,Instr.loadAt,Instr.sureAddr,Sem.run_bind,Sem.run_pure,Result.andThen_ok,hl]
  exact hK _ _ h
theorem Ij (s:ByteArray) (a:Nat) (w:World) (hs:s.size≤1000000) (ha:a<s.size) (hm:lA w) (hd:Lx.gQ s[a]=false) (hw:Lx.oK s[a]=false) :
    Calls Tryz.prog 129 #[.string s,.int .i64 a] w fun e w'=>e=.returned (.tuple #[.int .i64 (Lx.rd ((bs s).drop a)).1,.int .i64 ((a+(Lx.rd ((bs s).drop a)).2:Nat):Int)])/\w'=w:=by
 have hl:=Cq hm
 clear hm
 go_enter Tryz.func129,Tryz.ntmps129
 go_wp2_with (first|(refine bP rfl 250 (.global 0) rfl ⟨0,0,none⟩ rfl (.agg MV) hl ?_;clear hl)|(go_at_call 185;refine (jF s[a] _).mono ?_;rintro e w' ⟨rfl,rfl⟩)|(go_at_call 186;refine (nL s[a] _).mono ?_;rintro e w' ⟨rfl,rfl⟩))
 go_loop [25] (fun i=>∃k:Nat,k≤21/\i=.int .i64 k/\Hid (Lx.mk ((bs s).drop a)=Lx.nJ (Lx.marks.drop k) ((bs s).drop a))) (fun i=>21-(intOf i).toNat)
 case atStart=>exact ⟨0,by omega,rfl,rfl⟩
 case round=>
  obtain ⟨k,hk,rfl,hr⟩:=hrel
  by_cases hlt:k<21
  ·obtain ⟨mb,hmb⟩:∃mb:ByteArray,mb=⟨(Lx.marks.getD k []).toArray⟩:=⟨_,rfl⟩
   have hix:∀w,(Instr.index 250 (.agg MV) (.int .i64 k)).run Tryz.prog w=.ok (.string mb) w:=by
    intro w;rw[hmb];exact Y3 k hlt w
   have HMB:Hid (bs mb=Lx.marks.getD k []):=by
    show _=_;rw[hmb]
   clear hmb
   have hpos:=Iz k hlt
   have hlen:mb.size=(Lx.marks.getD k []).length:=by rw[<-HMB.out];exact (fJ mb).symm
   have hd2:=Cp k hlt
   have hrd:=Fb _ _ (zX s a ha) hd hw
   by_cases hp:(bs mb).isPrefixOf ((bs s).drop a)=true
   ·have hmk:Lx.mk ((bs s).drop a)=mb.size:=by
     rw[hr.out,hd2,Lx.nJ,<-HMB.out,if_pos hp,fJ]
    have hle:mb.size≤s.size-a:=by
     have:=(List.isPrefixOf_iff_prefix.1 hp).length_le;rw[fJ,List.length_drop,fJ] at this;exact this
    have H:Hid (Lx.rd ((bs s).drop a)=(3,mb.size)):=by
     show _=_;rw[hrd,hmk,if_neg (by omega)]
    clear hrd hmk hd2 hpos hlen
    go_wp2_with (go_at_call 187;refine (sG s mb a true _ hp).mono ?_;rintro e w' ⟨rfl,rfl⟩)
    go_ret2
    exact ⟨by rw[H.out];simp,rfl⟩
   ·have hp':(bs mb).isPrefixOf ((bs s).drop a)=false:=Bool.eq_false_iff.2 hp
    have H:Hid (Lx.mk ((bs s).drop a)=Lx.nJ (Lx.marks.drop (k+1)) ((bs s).drop a)):=by
     show _=_;rw[hr.out,hd2,Lx.nJ,<-HMB.out,hp'];rfl
    clear hrd hd2 hpos hlen hp
    go_wp2_with (go_at_call 187;refine (sG s mb a false _ hp').mono ?_;rintro e w' ⟨rfl,rfl⟩)
    go_round
    case rel=>exact ⟨k+1,by omega,by go_num,H⟩
    case measure=>simp[intOf];omega
  ·have hk21:k=21:=by omega
   subst hk21
   have hrd:=Fb _ _ (zX s a ha) hd hw
   have H:Hid (Lx.rd ((bs s).drop a)=(0,0)):=by
    show _=_;rw[hrd,hr.out];rfl
   clear hrd
   go_wp2
   go_ret2
   exact ⟨by rw[H.out];simp,rfl⟩
theorem Nf (s:ByteArray) (a:Nat) (w:World) (hs:s.size≤1000000) (ha:a<s.size) (hm:lA w) :
    Calls Tryz.prog 129 #[.string s,.int .i64 a] w fun e w'=>e=.returned (.tuple #[.int .i64 (Lx.rd ((bs s).drop a)).1,.int .i64 ((a+(Lx.rd ((bs s).drop a)).2:Nat):Int)])/\w'=w:=by
 have hc:(bs s).drop a=s[a]::(bs s).drop (a+1):=by
  rw[List.drop_eq_getElem_cons (by rw[fJ];exact ha)];rfl
 by_cases hd:Lx.gQ s[a]=true
 ·have H:Hid (Lx.rd ((bs s).drop a)=(2,Lx.wh Lx.gQ ((bs s).drop a))):=by
   show _=_;rw[hc,Lx.mB,if_pos hd]
  clear hc
  go_enter Tryz.func129,Tryz.ntmps129
  go_wp2_with (first|(go_at_call 185;refine (jF s[a] _).mono ?_;rintro e w' ⟨rfl,rfl⟩)|(go_at_call 183;refine (Cc s a _ hs (by omega)).mono ?_;rintro e w' ⟨rfl,rfl⟩))
  go_ret2
  exact ⟨by rw[H.out];rfl,rfl⟩
 ·have hd':Lx.gQ s[a]=false:=by simpa using hd
  by_cases hw:Lx.oK s[a]=true
  ·have H:Hid (Lx.rd ((bs s).drop a)=(1,Lx.wh Lx.oK ((bs s).drop a))):=by
    show _=_;rw[hc,Lx.mB,if_neg hd,if_pos hw]
   clear hc hd
   go_enter Tryz.func129,Tryz.ntmps129
   go_wp2_with (first|(go_at_call 185;refine (jF s[a] _).mono ?_;rintro e w' ⟨rfl,rfl⟩)|(go_at_call 186;refine (nL s[a] _).mono ?_;rintro e w' ⟨rfl,rfl⟩)|(go_at_call 183;refine (Ik s a _ hs (by omega)).mono ?_;rintro e w' ⟨rfl,rfl⟩))
   go_ret2
   exact ⟨by rw[H.out];rfl,rfl⟩
  ·exact Ij s a w hs ha hm hd' (by simpa using hw)
end
end Go.Proofs.YtcdbhoknhnimcaaGreatDoor
