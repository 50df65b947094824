import Derived.Test.YtpogmfliojcnjaaGreatDoorSSame3
import Derived.Deep.DeepCutAuto
import Derived.BigQuiet
import Derived.Deep.QuietTactic
namespace Go.Proofs.YtpogmfliojcnjaaGreatDoor
section
open Go.RowKit Go.Sort Px
def Held (w:World) (b:Nat) (xs:Array Value):Prop:=∀(j:Nat) (u:Value),xs[j]?=some u->w.cell? ⟨b,j,none⟩=some u
def WayAt (w:World) (g i:Nat) (a:Wy) (p q:Value):Prop:=Held w g #[]/\w.cell? ⟨g,i*7,none⟩=some (.int .i64 a.kind)/\w.cell? ⟨g,i*7+1,none⟩=some (.bool a.now)/\w.cell? ⟨g,i*7+2,none⟩=some p/\w.cell? ⟨g,i*7+3,none⟩=some (.int .i64 a.times)/\w.cell? ⟨g,i*7+4,none⟩=some q/\w.cell? ⟨g,i*7+5,none⟩=some (sv a.to)/\w.cell? ⟨g,i*7+6,none⟩=some (.bool a.back)
end
section
open Go.RowKit Go.Sort Px
end
section
open Go.RowKit Go.Sort Px
end
section
open Go.RowKit Go.Sort Px
theorem Row.recs' {α:Type}{R:α->List Value->Prop}{A:Nat->Prop}{w:World}{e k:Nat}{v:Value}{l:List α}{xs:List Value}(hk:∀a c,R a c->c.length=k) (hr:Row A w e k v l.length xs) (hs:Rows R l xs) :
    ∃ao cap g,v=.slice ao l.length cap/\l.length≤maxLen/\∀(i:Nat) (a:α),l[i]?=some a->ao=some ⟨g,0,none⟩/\g<w.heap.size/\∃c,R a c/\∀(j:Nat) (u:Value),c[j]?=some u->w.cell? ⟨g,i*k+j,none⟩=some u:=by
 rcases Row.recs hk hr hs with ⟨rfl,ao,cap,rfl⟩|⟨g,cap,rfl,h2,h3,h4,h5,h6⟩
 ·exact ⟨ao,cap,0,rfl,Nat.zero_le _,fun i a hi=>absurd hi (by simp)⟩
 ·exact ⟨_,cap,g,rfl,h3,fun i a hi=>⟨rfl,h4,h6 i a hi⟩⟩
theorem IsE.pt {A:Nat->Prop}{w:World}{e:E}{v:Value}(h:IsE A w e v):∃u,v=.pointer u:=by
 cases e with
 | nil=>exact ⟨none,h⟩
 | node _ _ _ _ _=>obtain ⟨g,_,_,rfl,_⟩:=h;exact ⟨_,rfl⟩
theorem IsSets.sl {A:Nat->Prop}{w:World}{l:List Asg}{v:Value}(h:IsSets A w l v):∃a n c,v=.slice a n c:=by
 obtain ⟨xs,hr,hs⟩:=h
 obtain ⟨ao,cap,rfl,_⟩:=hr.read
 exact ⟨_,_,_,rfl⟩
theorem IsWays.read {A:Nat->Prop}{w:World}{l:List Wy}{v:Value}(h:IsWays A w l v) :
    ∃ao cap g,v=.slice ao l.length cap/\l.length≤maxLen/\∀(i:Nat) (a:Wy),l[i]?=some a->ao=some ⟨g,0,none⟩/\g<w.heap.size/\∃p q n c,WayAt w g i a (.pointer p) (.slice q n c)/\IsE A w a.cond (.pointer p)/\IsSets A w a.sets (.slice q n c):=by
 obtain ⟨xs,hr,hs⟩:=h
 obtain ⟨ao,cap,g,h1,h2,h3⟩:=Row.recs' (k:=7) (fun a c ⟨p,q,hc,_⟩=>by rw[hc];rfl) hr hs
 refine ⟨ao,cap,g,h1,h2,fun i a hi=>?_⟩
 obtain ⟨h4,h5,c,⟨p,q,rfl,hp,hq⟩,hx⟩:=h3 i a hi
 obtain ⟨u,rfl⟩:=hp.pt
 obtain ⟨qa,qn,qc,rfl⟩:=hq.sl
 exact ⟨h4,h5,u,qa,qn,qc,⟨fun j u hj=>absurd hj (by simp),hx 0 _ rfl,hx 1 _ rfl,hx 2 _ rfl,hx 3 _ rfl,hx 4 _ rfl,hx 5 _ rfl,hx 6 _ rfl⟩,hp,hq⟩
end
section
open Go.RowKit Go.Lib Go.Sort Px
def Px.OkStF {ρ:Type}(G:ρ->Prop) (x:StF ρ):Prop:=
 (GoodSets x.enter/\GoodSets x.during/\GoodSets x.leave/\GoodE x.rests/\∀y∈x.ways,GoodWay y)/\(x.enter.length≤10000/\x.during.length≤10000/\x.leave.length≤10000)/\∀r∈x.regions,∀s∈r,G s
def Px.OkSt:(k:Nat)->St k->Prop
 | 0=>fun _=>True
 | k+1=>fun s=>OkStF (OkSt k) s
def RegsW (k:Nat):Prop:=∀(wb:Nat) (w:World) (v p:Value) (t:Str) (d:Nat) (l:List (List (St k))),d+2*k≤800->WAt wb w v t d->WEnv wb w->(∀r∈l,∀s∈r,OkSt k s)->IsRegs (· < wb) w (IsStates (· < wb) w k) l p->t.length+(regT (stateT k) l d).length≤140737488355328->
 Calls Tryz.prog 60 #[.pointer (some ⟨wb,0,none⟩),p] w fun e' w'=>e'=.returned (.tuple #[])/\Wrote wb w v (t++regT (stateT k) l d) d w'
set_option maxRecDepth 100000 in
set_option maxHeartbeats 2000000 in
theorem isBare_any {w:World}{s:ByteArray}{f la:Bool}{a3 a4 a5 a7 a8 u:Option Addr}{n3 n4 n5 n7 n8 m3 m4 m5 m7 m8:Nat}(h3:n3≤10000) (h4:n4≤10000) (h5:n5≤10000) :
    Calls Tryz.prog 147 #[.agg #[.string s,.bool f,.bool la,.slice a3 n3 m3,.slice a4 n4 m4,.slice a5 n5 m5,.pointer u,.slice a7 n7 m7,.slice a8 n8 m8]] w fun e w'=>e=.returned (.bool (decide (n3+n4+n5=0/\u=none/\n7=0/\n8=0)))/\Below w.heap.size w w':=by
 obtain ⟨q,hq⟩:∃q,Hid (q=n3+n4):=⟨_,rfl⟩
 obtain ⟨z,hz⟩:∃z,Hid (z=n3+n4+n5):=⟨_,rfl⟩
 have hw1:IntKind.i64.wrap ((n3:Int)+(n4:Int))=(q:Int):=by rw[IntKind.wrap_i64,hq.out];omega
 have hw2:IntKind.i64.wrap ((q:Int)+(n5:Int))=(z:Int):=by rw[IntKind.wrap_i64,hq.out,hz.out];omega
 rw[show n3+n4+n5=z from hz.out.symm]
 clear h3 h4 h5
 have hb:=(Below.refl w.heap.size w).alloc (Nat.le_refl _) (.cells #[.string s,.bool f,.bool la,.slice a3 n3 m3,.slice a4 n4 m4,.slice a5 n5 m5,.pointer u,.slice a7 n7 m7,.slice a8 n8 m8] 69)
 by_cases hz0:z=0
 ·have i0:(z:Int)=0:=by omega
  have b0:((z:Int)==0)=true:=by simp[i0]
  cases u with
  | some a=>
   have H:Hid (decide (z=0/\(some a)=(none:Option Addr)/\n7=0/\n8=0)=false):=by rw[Hid];simp
   rw[H.out]
   go_enter Tryz.func147,Tryz.ntmps147
   go_wp2_with fail
   go_ret
   exact ⟨rfl,hb⟩
  | none=>
   by_cases h7:n7=0
   ·have i7:(n7:Int)=0:=by omega
    have b7:((n7:Int)==0)=true:=by simp[i7]
    by_cases h8:n8=0
    ·have b8:((n8:Int)==0)=true:=by simp[h8]
     have H:Hid (decide (z=0/\(none:Option Addr)=none/\n7=0/\n8=0)=true):=by rw[Hid];simp[hz0,h7,h8]
     rw[H.out]
     clear hz0 h7 h8 i0 i7
     go_enter Tryz.func147,Tryz.ntmps147
     go_wp2_with fail
     go_ret
     exact ⟨rfl,hb⟩
    ·have b8:((n8:Int)==0)=false:=beq_false_of_ne (by omega)
     have H:Hid (decide (z=0/\(none:Option Addr)=none/\n7=0/\n8=0)=false):=by rw[Hid];simp[h8]
     rw[H.out]
     clear hz0 h7 h8 i0 i7
     go_enter Tryz.func147,Tryz.ntmps147
     go_wp2_with fail
     go_ret
     exact ⟨rfl,hb⟩
   ·have b7:((n7:Int)==0)=false:=beq_false_of_ne (by omega)
    have H:Hid (decide (z=0/\(none:Option Addr)=none/\n7=0/\n8=0)=false):=by rw[Hid];simp[h7]
    rw[H.out]
    clear hz0 h7 i0
    go_enter Tryz.func147,Tryz.ntmps147
    go_wp2_with fail
    go_ret
    exact ⟨rfl,hb⟩
 ·have b0:((z:Int)==0)=false:=beq_false_of_ne (by omega)
  have H:Hid (decide (z=0/\u=none/\n7=0/\n8=0)=false):=by rw[Hid];simp[hz0]
  rw[H.out]
  clear hz0
  go_enter Tryz.func147,Tryz.ntmps147
  go_wp2_with fail
  go_ret
  exact ⟨rfl,hb⟩
end
end Go.Proofs.YtpogmfliojcnjaaGreatDoor
