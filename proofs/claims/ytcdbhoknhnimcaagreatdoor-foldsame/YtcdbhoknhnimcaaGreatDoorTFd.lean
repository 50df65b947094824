import Derived.Test.YtcdbhoknhnimcaaGreatDoorTFa
import Derived.Test.YtcdbhoknhnimcaaGreatDoorTCe2
import Derived.Deep.RegionLaw
import Derived.Deep.AppendLies
import Derived.BigQuiet
import Derived.Test.YtcdbhoknhnimcaaGreatDoorTNt3
import Derived.Test.YtcdbhoknhnimcaaGreatDoorTNt8b
set_option maxRecDepth 100000
set_option maxHeartbeats 4000000
namespace Go.Proofs.YtcdbhoknhnimcaaGreatDoor
section
open Go.RowKit Px
namespace Fw
open Nx (Nt Sp)
open Ew (bH Up rA tV Y1)
section
variable {P:Nat->Prop}{w:World}{fb m:Nat}{f:Nx.Fd}
theorem Tb {nums:List Int}{v:Int}(h:v∉nums) (u:Int):Ln (nums++[v]) u=if u=v then some (nums.length:Int) else Ln nums u:=by
 unfold Ln
 by_cases hu:u=v
 ·subst hu
  rw[if_pos (by simp),if_pos rfl,List.idxOf_append,if_neg h]
  simp
 ·rw[if_neg hu]
  by_cases hm:u∈nums
  ·rw[if_pos (by simp[hm]),if_pos hm,List.idxOf_append,if_pos hm]
  ·rw[if_neg (by simp[hm,hu]),if_neg hm]
theorem mO {v:Int}(h:pP P w fb m f) (hv:eF v) (hm:m<100000) :
    Calls Tryz.prog 60 #[.pointer (some ⟨fb,0,none⟩),.int .i64 v] w fun e w'=>e=.returned (.int .i64 (f.nums.idxOf v:Nat))/\Hid (pP (Up P w w') w' fb (m+1) { f with nums:=Nx.sQ f.nums v }/\bH P w w'):=by
 obtain ⟨⟨c,hc⟩,hlt⟩:=h
 obtain ⟨c0,c1,c2,c3,cf⟩:=hc.cells
 have hlk:=hc.lookW hv
 by_cases hin:v∈f.nums
 ·have e1:Ln f.nums v=some (f.nums.idxOf v:Nat):=if_pos hin
  rw[e1] at hlk
  have e2:Nx.sQ f.nums v=f.nums:=if_pos hin
  obtain ⟨k,hk⟩:∃k,k=f.nums.idxOf v:=⟨_,rfl⟩
  have hlk':(Instr.lookup 59 (.map (some c.bw)) (.int .i64 v) true).run Tryz.prog w=.ok (.tuple #[.int .i64 (k:Int),.bool true]) w:=by rw[hk];exact hlk
  have HF:Hid (pP (Up P w w) w fb (m+1) { f with nums:=Nx.sQ f.nums v }/\bH P w w):=⟨by rw[e2];exact ((pP.more ⟨⟨c,hc⟩,hlt⟩ (by omega) (by omega)).mono (fun _ h=>.inl h) (fun b hb=>hb.elim (hlt b) fun h=>h.2)),bH.refl _ _⟩
  rw[<-hk]
  clear hc hlt hlk hin e1 e2 hk
  go_enter Tryz.func60,Tryz.ntmps60
  go_wp2_with fail
  go_ret
  exact ⟨rfl,HF⟩
 ·have e1:Ln f.nums v=none:=if_neg hin
  rw[e1] at hlk
  have e2:Nx.sQ f.nums v=f.nums++[v]:=if_neg hin
  have e3:f.nums.idxOf v=f.nums.length:=List.idxOf_eq_length hin
  obtain ⟨ao,cap,e4⟩:=aJ hc.rn
  obtain ⟨n,hn⟩:∃n,n=f.nums.length:=⟨_,rfl⟩
  have hlk':(Instr.lookup 59 (.map (some c.bw)) (.int .i64 v) true).run Tryz.prog w=.ok (.tuple #[.int .i64 0,.bool false]) w:=hlk
  obtain ⟨g,hm1,hg⟩:=hc.wh
  obtain ⟨w6,hrun,hm6,hg6⟩:=hm1.put tV Tryz.underlying59 (by have:=hc.few;unfold maxLen;omega) (Maps.keyOf_int_mk Tryz.underlying2 hv.wf) (.int .i64 (n:Int))
  have kp6:∀b,b<w.heap.size->b≠c.bw->w6.heap[b]?=w.heap[b]?:=fun b hb hne=>hg6.block b hb fun e=>hne (by injection e)
  have lfb:=aB hc.hk
  have hk6:w6.heap[fb]?=some (.cells #[.map (some c.bk),.map (some c.bw),.slice ao n cap,c.vC] 61 (0,0)):=by rw[kp6 fb lfb hc.ne.2.1,hc.hk,e4,hn]
  have hr6:w6.ownsRow 0 2 1 (.slice ao n cap) n (f.nums.map (Value.int .i64)):=by
   have:=dK (A:=fun b=>c.vN.ownBlock=some b) (A':=fun _=>True) hc.rn (fun _ h=>h) fun b hb hl=>⟨trivial,kp6 b hl (hc.pn b hb).2.2.2.1⟩
   rw[e4,<-hn] at this;exact this
  rw[e4,<-hn] at c2
  have d2:=aA hk6 2 (u:=.slice ao n cap) rfl
  have hn6:n≤100000:=by have:=hc.few;omega
  have lf6:fb<w6.heap.size:=aB hk6
  have HC:Hid (FM P w fb m f c/\(∀b,P b->b<w.heap.size)/\c.vN=.slice ao n cap/\n=f.nums.length/\w6.heap[fb]?=some (.cells #[.map (some c.bk),.map (some c.bw),.slice ao n cap,c.vC] 61 (0,0))/\Gm.Mp Tryz.prog 2 w6 c.bw (if (g (.int .i64 v)).isSome then c.nw else c.nw+1) (Gm.put g (.int .i64 v) (.int .i64 (n:Int)))/\w.grownBy w6 (some c.bw)/\(∀u:Int,g (.int .i64 u)=(Ln f.nums u).map (Value.int .i64))/\v∉f.nums/\Nx.sQ f.nums v=f.nums++[v]):=⟨hc,hlt,by rw[e4,hn],hn,hk6,hm6,hg6,hg,hin,e2⟩
  obtain ⟨i0,hi,hz0,hz1,hz2⟩:=info_parts Y1
  rw[e3,<-hn]
  clear hc hlt hlk hin e1 e2 e3 e4 hn hm1 hm6 hg6 hg kp6
  go_enter Tryz.func60,Tryz.ntmps60
  go_wp2_with (at_builtin;refine wpList_append_own_at _ rfl (.tmp 33) (.tmp 35) 22 rfl 0 2 i0 _ 1 8 Tryz.underlying22 hi hz0 hz1 hz2 rfl (by decide) _ _ _ rfl (hr6.alloc _) ⟨w6.heap.size,0,none⟩ 1 1 [.int .i64 v] rfl rfl (Ew.dX _ _ _) (by intro u hu;simp at hu;subst hu;rfl) (by unfold maxLen;omega) (by omega) (by simp) ?_;intro v5 w5 hown5 hgrow _ hat;obtain ⟨a5,m5,e5⟩:=aJ hown5;subst e5;have hk5:w5.heap[fb]?=some (.cells #[.map (some c.bk),.map (some c.bw),.slice ao n cap,c.vC] 61 (0,0)):=by { rw[hgrow.block fb (by simp;omega) (fun e=>(HC.out.1.pn fb (by rw[HC.out.2.2.1];exact e.symm)).2.1 rfl),Below.heap_alloc _ _ _ lf6];exact HC.out.2.2.2.2.1 };have z2:=aA hk5 2 (u:=.slice ao n cap) rfl;have f2:=aE hk5 2)
  go_ret
  refine ⟨rfl,?_⟩
  obtain ⟨h1,h2,h3,h4,h5,h6,h7,h8,h9,h10⟩:=HC.out
  have hgu:∀u:Int,(Gm.put _ (.int .i64 v) (.int .i64 (n:Int))) (.int .i64 u)=(Ln (f.nums++[v]) u).map (Value.int .i64):=fun u=>by
   rw[Tb h9]
   by_cases hu:u=v
   ·subst hu
    rw[Gm.lQ _ (by trivial),if_pos rfl,h4];rfl
   ·rw[Gm.kB _ _ (by intro e;injection e with _ e;exact hu e),if_neg hu];exact h8 u
  obtain ⟨g1,g2⟩:=h1.addNum (v:=v) (w0:=w6.alloc (.cells #[.int .i64 v] 2)) h7 h6 hgu (by have:=h1.few;split<;>omega) (aC _ _) (by rw[<-h4];exact hown5) (by rw[h3];exact hgrow) (by rw[h3];exact hat) hm
  rw[h10]
  exact ⟨⟨⟨_,g1⟩,Ew.fL h2 g2.size⟩,g2⟩
end
end Fw
end
section
open Go.RowKit Px
namespace Fw
open Nx (Nt Sp)
open Ew (bH Up rA)
abbrev spV (s:Sp):Value:=.agg #[.int .i64 s.code,.int .i64 s.dst,.int .i64 s.a,.int .i64 s.b,.int .i64 s.c]
theorem Ya:(Tryz.prog.info? 39).map (·.size)=some 5:=by kernel_rfl
theorem Yz {W:World}{g:Nat}{fc:Array Value}(hsz:fc.size=5) (hg:W.heap[g]?=some (.cells fc 39 (0,0))):(loadVar 39 ⟨g,0,none⟩).run Tryz.prog W=.ok (.agg fc) W:=
 run_loadVar_row (P:=Tryz.prog) W g 39 39 fc (0,0) _ hg Tryz.underlying39 rfl (by rw[hsz];exact Ya)
theorem wY (tmps:Array Value) (W:World) (g:Nat) (fc:Array Value) (hsz:fc.size=5) (hp:tmps[4]?.getD undef=.pointer (some ⟨g,0,none⟩)) (hg:W.heap[g]?=some (.cells fc 39 (0,0))) :
    (results Tryz.f58 tmps).run Tryz.prog W=.ok (.agg fc) W:=by
 simp[results,Tryz.results58,hp,asAddr,Yz hsz hg]
theorem Ms {w2:World}{c:Nat}{b0 b1 b2 b3 b4 a0 a1 a2 a3 a4:Value}(hc:w2.heap[c]?=some (.cells #[b0,b1,b2,b3,b4] 39 (0,0))) {w3:World}(hw:w3=((((w2.setCell ⟨c,0,none⟩ a0).setCell ⟨c,1,none⟩ a1).setCell ⟨c,2,none⟩ a2).setCell ⟨c,3,none⟩ a3).setCell ⟨c,4,none⟩ a4) :
    w3.heap[c]?=some (.cells #[a0,a1,a2,a3,a4] 39 (0,0))/\(∀k,k≠c->w3.heap[k]?=w2.heap[k]?)/\(∀B a,Below B a w2->B≤c->Below B a w3)/\w3.heap.size=w2.heap.size:=by
 have h0:=bQ (l:=[b0,b1,b2,b3,b4]) hc 0 a0
 have h1:=bQ (l:=[a0,b1,b2,b3,b4]) h0 1 a1
 have h2:=bQ (l:=[a0,a1,b2,b3,b4]) h1 2 a2
 have h3:=bQ (l:=[a0,a1,a2,b3,b4]) h2 3 a3
 have h4:=bQ (l:=[a0,a1,a2,a3,b4]) h3 4 a4
 have ot:∀(W:World) (j:Nat) (u:Value) (k:Nat),k≠c->(W.setCell ⟨c,j,none⟩ u).heap[k]?=W.heap[k]?:=fun W j u k hk=>Below.heap_setCell _ _ _ _ hk
 have bl:∀(B:Nat) (a W:World) (j:Nat) (u:Value),Below B a W->B≤c->Below B a (W.setCell ⟨c,j,none⟩ u):=fun B a W j u h hB=>h.setCell (p:=⟨c,j,none⟩) hB u
 have sz:∀(W:World) (j:Nat) (u:Value),(W.setCell ⟨c,j,none⟩ u).heap.size=W.heap.size:=fun W j u=>by simp[World.setCell]
 rw[hw]
 refine ⟨h4,fun k hkc=>?_,fun B a hb hBc=>?_,?_⟩
 ·rw[ot _ _ _ _ hkc,ot _ _ _ _ hkc,ot _ _ _ _ hkc,ot _ _ _ _ hkc,ot _ _ _ _ hkc]
 ·exact bl _ _ _ _ _ (bl _ _ _ _ _ (bl _ _ _ _ _ (bl _ _ _ _ _ (bl _ _ _ _ _ hb hBc) hBc) hBc) hBc) hBc
 ·rw[sz,sz,sz,sz,sz]
theorem iT {W:World}{g:Nat}{T:TypeId}{f:Nat×Nat}{a0 a1 a2 a3 a4:Value}(h:W.heap[g]?=some (.cells #[a0,a1,a2,a3,a4] T f)):W.cell? ⟨g,0,none⟩=some a0/\W.cell? ⟨g,1,none⟩=some a1/\W.cell? ⟨g,2,none⟩=some a2/\W.cell? ⟨g,3,none⟩=some a3/\W.cell? ⟨g,4,none⟩=some a4:=by
 refine ⟨?_,?_,?_,?_,?_⟩<;>(rw[cell_of_row _ _ _ _ _ _ h];rfl)
section
variable {P:Nat->Prop}{w:World}{fb m:Nat}{f:Nx.Fd}
theorem Dn {s:Sp}(h:pP P w fb m f) (ha:eF s.a) :
    Calls Tryz.prog 58 #[.pointer (some ⟨fb,0,none⟩),spV s] w fun e w'=>e=.returned (spV (Nx.lS f.kn s))/\Hid (Below w.heap.size w w'):=by
 obtain ⟨sc,sd,sa,sb,se⟩:=s
 obtain ⟨U,hU⟩:∃U,U=w.alloc (.cells #[.int .i64 sc,.int .i64 sd,.int .i64 sa,.int .i64 sb,.int .i64 se] 39):=⟨_,rfl⟩
 obtain ⟨W,hW⟩:∃W,W=U.alloc (.cells #[.int .i64 0,.int .i64 0,.int .i64 0,.int .i64 0,.int .i64 0] 39):=⟨_,rfl⟩
 obtain ⟨q3,hq3⟩:∃q3,q3=w.heap.size:=⟨_,rfl⟩
 have sU:U.heap.size=w.heap.size+1:=by rw[hU];simp
 have hbU:Below w.heap.size w U:=by rw[hU];exact aC _ _
 have hbW:Below U.heap.size U W:=by rw[hW];exact aC _ _
 have hb:Below w.heap.size w W:=aN hbU hbW
 have k3:W.heap[q3]?=some (.cells #[.int .i64 sc,.int .i64 sd,.int .i64 sa,.int .i64 sb,.int .i64 se] 39 (0,0)):=aH hbW (by rw[hU,hq3];exact bE w _)
 have k4:W.heap[q3+1]?=some (.cells #[.int .i64 0,.int .i64 0,.int .i64 0,.int .i64 0,.int .i64 0] 39 (0,0)):=by rw[hq3,<-sU,hW];exact bE U _
 obtain ⟨⟨c,hc⟩,hlt⟩:=h.below hb
 obtain ⟨c0,_,_,_,_⟩:=hc.cells
 have hlk:(Instr.lookup 58 (.map (some c.bk)) (.int .i64 sa) true).run Tryz.prog W.drew=.ok (.tuple #[.int .i64 ((f.kn sa).getD 0),.bool (f.kn sa).isSome]) W.drew:=(hc.carry (w':=W.drew) (Q:=P) fun _ hx _=>⟨hx,rfl⟩).look ha
 obtain ⟨a0,a1,a2,a3,a4⟩:=iT k3
 obtain ⟨b0,b1,b2,b3,b4⟩:=iT k4
 have bf:∀o,W.frozen? ⟨q3+1,o,none⟩=false:=fun o=>aE k4 o
 have HB:Hid (Below w.heap.size w W/\W.heap[q3+1]?=some (.cells #[.int .i64 0,.int .i64 0,.int .i64 0,.int .i64 0,.int .i64 0] 39 (0,0))/\q3=w.heap.size):=⟨hb,k4,hq3⟩
 rw[hU] at hW
 by_cases h17:sc=17
 ·have t:(sc != 17)=false:=by simp[h17]
  cases hkn:f.kn sa with
  | none=>
   rw[hkn] at hlk
   have hlk':(Instr.lookup 58 (.map (some c.bk)) (.int .i64 sa) true).run Tryz.prog W.drew=.ok (.tuple #[.int .i64 0,.bool false]) W.drew:=hlk
   have HR:Hid (Nx.lS f.kn ⟨sc,sd,sa,sb,se⟩=⟨sc,sd,sa,sb,se⟩):=by unfold Hid Nx.lS;rw[if_pos h17];simp only;rw[hkn]
   clear hc hlt hlk h17 hkn sU hbU hbW hb k3 k4
   go_enter Tryz.func58,Tryz.ntmps58
   go_upto_region 1 with fail
   rw[<-hW,<-hq3]
   clear hW hq3 hU
   go_upto_region 3 with fail
   go_region
   all_goals
    go_wp2_with fail
    obtain ⟨X,hX⟩:∃X,X=((((W.setCell ⟨q3+1,0,none⟩ (.int .i64 sc)).setCell ⟨q3+1,1,none⟩ (.int .i64 sd)).setCell ⟨q3+1,2,none⟩ (.int .i64 sa)).setCell ⟨q3+1,3,none⟩ (.int .i64 sb)).setCell ⟨q3+1,4,none⟩ (.int .i64 se):=⟨_,rfl⟩
    rw[<-hX]
    obtain ⟨z0,_,z2,_⟩:=Ms HB.out.2.1 hX
    clear hX
    refine bodyPost_ret (wY _ X.drew (q3+1) _ rfl rfl z0) rfl ⟨by rw[HR.out],?_⟩
    exact (z2 _ _ HB.out.1 (by have:=HB.out.2.2;omega)).drew
  | some x=>
   rw[hkn] at hlk
   have hlk':(Instr.lookup 58 (.map (some c.bk)) (.int .i64 sa) true).run Tryz.prog W.drew=.ok (.tuple #[.int .i64 x,.bool true]) W.drew:=hlk
   obtain ⟨y,hy⟩:∃y,y=mI x sb se:=⟨_,rfl⟩
   have hpk:∀V,Calls Tryz.prog 100 #[.int .i64 x,.int .i64 sb,.int .i64 se] V fun e w'=>e=.returned (.int .i64 y)/\w'=V:=fun V=>by rw[hy];exact V0 x sb se V
   have HR:Hid (Nx.lS f.kn ⟨sc,sd,sa,sb,se⟩=⟨2,sd,y,0,0⟩):=by unfold Hid Nx.lS;rw[if_pos h17];simp only;rw[hkn,hy]
   clear hc hlt hlk h17 hkn sU hbU hbW hb k3 k4 hy
   go_enter Tryz.func58,Tryz.ntmps58
   go_upto_region 1 with fail
   rw[<-hW,<-hq3]
   clear hW hq3 hU
   go_upto_region 3 with fail
   go_region
   all_goals
    go_upto_region 6 with fail
    go_region_law (go_simp;go_at_call 100;refine (hpk _).mono ?_;rintro e w5 ⟨rfl,hw5⟩;obtain rfl:=hw5.symm)
    all_goals
     go_wp2_with fail
     obtain ⟨X,hX⟩:∃X,X=((((W.setCell ⟨q3+1,0,none⟩ (.int .i64 2)).setCell ⟨q3+1,1,none⟩ (.int .i64 sd)).setCell ⟨q3+1,2,none⟩ (.int .i64 y)).setCell ⟨q3+1,3,none⟩ (.int .i64 0)).setCell ⟨q3+1,4,none⟩ (.int .i64 0):=⟨_,rfl⟩
     rw[<-hX]
     obtain ⟨z0,_,z2,_⟩:=Ms HB.out.2.1 hX
     clear hX
     refine bodyPost_ret (wY _ X.drew.drew (q3+1) _ rfl rfl z0) rfl ⟨by rw[HR.out],?_⟩
     exact (z2 _ _ HB.out.1 (by have:=HB.out.2.2;omega)).drew.drew
 ·have t:(sc != 17)=true:=by simpa using h17
  have HR:Hid (Nx.lS f.kn ⟨sc,sd,sa,sb,se⟩=⟨sc,sd,sa,sb,se⟩):=by unfold Hid Nx.lS;rw[if_neg h17]
  clear hc hlt hlk h17 sU hbU hbW hb k3 k4 c0
  go_enter Tryz.func58,Tryz.ntmps58
  go_upto_region 1 with fail
  rw[<-hW,<-hq3]
  clear hW hq3 hU
  go_wp2_with fail
  obtain ⟨X,hX⟩:∃X,X=((((W.setCell ⟨q3+1,0,none⟩ (.int .i64 sc)).setCell ⟨q3+1,1,none⟩ (.int .i64 sd)).setCell ⟨q3+1,2,none⟩ (.int .i64 sa)).setCell ⟨q3+1,3,none⟩ (.int .i64 sb)).setCell ⟨q3+1,4,none⟩ (.int .i64 se):=⟨_,rfl⟩
  rw[<-hX]
  obtain ⟨z0,_,z2,_⟩:=Ms HB.out.2.1 hX
  clear hX
  refine bodyPost_ret (wY _ X (q3+1) _ rfl rfl z0) rfl ⟨by rw[HR.out],?_⟩
  exact z2 _ _ HB.out.1 (by have:=HB.out.2.2;omega)
end
end Fw
end
section
open Go.RowKit Go.Sort Px
namespace Fw
open Nx (Nt Sp asks mS bL)
open Ew (bH Up rA)
section
variable {P A:Nat->Prop}{w:World}{fb m:Nat}{f:Nx.Fd}
structure NQ (P A:Nat->Prop) (q fb m:Nat) (f:Nx.Fd) (s:Sp) (vO:Value) (old:List Int) (w w':World):Prop where
 bel:Below w.heap.size w w'
 box:w'.heap[q]?=some (.cells #[.int .i64 s.code,.int .i64 s.dst,.int .i64 s.a,.int .i64 s.b,.int .i64 s.c] 39 (0,0))
 fld:pP P w' fb m f
 old:bL A w' vO old
theorem NQ.below {q:Nat}{s:Sp}{vO:Value}{old:List Int}{w' w'':World}(h:NQ P A q fb m f s vO old w w') (hb:Below w'.heap.size w' w''):NQ P A q fb m f s vO old w w'':=
 ⟨aN h.bel hb,aH hb h.box,h.fld.below hb,h.old.carry fun y hy hl=>⟨hy,hb.block y hl⟩⟩
theorem NQ.start {s:Sp}{vO:Value}{old:List Int}(h:pP P w fb m f) (hO:bL A w vO old):NQ P A w.heap.size fb m f s vO old w (w.alloc (.cells #[.int .i64 s.code,.int .i64 s.dst,.int .i64 s.a,.int .i64 s.b,.int .i64 s.c] 39)):=
 ⟨aC _ _,bE w _,h.below (aC _ _),hO.carry fun y hy hl=>⟨hy,(aC _ _).block y hl⟩⟩
theorem Sc {s:Sp}(h1:¬s.code=1) (h:1≤s.code/\s.code≤17/\s.code≠3):s.a∈asks s:=by
 unfold asks
 split
 ·simp
 ·split
  ·simp
  ·split
   ·simp
   ·omega
theorem aA3 {s:Sp}(h1:¬s.code=1) (h2:¬s.code=2) (h4:¬(s.code=4\/s.code=5)) (h:1≤s.code/\s.code≤17/\s.code≠3):s.b∈asks s:=by
 unfold asks
 split
 ·omega
 ·split
  ·simp
  ·split
   ·simp
   ·omega
theorem ixO (ad:Option Addr) (b off n cap:Nat) (i:Int) (h0:0≤i) (hi:i<n) (ha:0<n->ad=some ⟨b,off,none⟩) (w:World):(Instr.indexAt 22 (.slice ad n cap) (.int .i64 i)).run Tryz.prog w=.ok (.pointer (some ⟨b,off+i.toNat,none⟩)) w:=by
 obtain rfl:=ha (by omega)
 rw[run_indexAt_slice _ _ _ _ _ _ _ (by kernel_rfl),if_pos ⟨by omega,by omega⟩]
 have e:(sizeOf (Tryz.prog.elem 22)).run Tryz.prog w=.ok 1 w:=by kernel_rfl
 rw[e]
 simp[Result.andThen,Addr.add]
theorem dB {s:Sp}{vO:Value}{old:List Int}(h:pP P w fb m f) (hO:bL A w vO old) (hs:1≤s.code/\s.code≤17/\s.code≠3) (h17:s.code=17->f.kn s.a=none) (hN:∀p∈asks s,eF p) (h1:s.code=1->0≤s.a/\s.a<old.length) :
    Calls Tryz.prog 59 #[.pointer (some ⟨fb,0,none⟩),spV s,vO] w fun e w'=>e=.returned (.tuple #[.int .i64 ((Nx.qS f.kn old s).getD 0),.bool (Nx.qS f.kn old s).isSome])/\Hid (Below w.heap.size w w'):=by
 have HQ:=NQ.start (s:=s) h hO
 obtain ⟨U,hU⟩:∃U,U=w.alloc (.cells #[.int .i64 s.code,.int .i64 s.dst,.int .i64 s.a,.int .i64 s.b,.int .i64 s.c] 39):=⟨_,rfl⟩
 obtain ⟨q,hq⟩:∃q,q=w.heap.size:=⟨_,rfl⟩
 rw[<-hU,<-hq] at HQ
 have HK:Hid (NQ P A q fb m f s vO old w U):=HQ
 have HS:Hid ((1≤s.code/\s.code≤17/\s.code≠3)/\(s.code=17->f.kn s.a=none)/\(∀p∈asks s,eF p)/\(s.code=1->0≤s.a/\s.a<old.length)):=⟨hs,h17,hN,h1⟩
 clear hs h17 hN h1 h hO
 obtain ⟨c0,c1,c2,c3,c4⟩:=iT HQ.box
 clear HQ
 obtain ⟨sc,sd,sa,sb,se⟩:=s
 have hask:Calls Tryz.prog 13 #[.agg #[.int .i64 sc,.int .i64 sd,.int .i64 sa,.int .i64 sb,.int .i64 se]] U fun e w'=>∃ad cap,e=.returned (.slice ad (asks ⟨sc,sd,sa,sb,se⟩).length cap)/\Hid (NQ P A q fb m f ⟨sc,sd,sa,sb,se⟩ vO old w w'/\∃b off,(0<(asks ⟨sc,sd,sa,sb,se⟩).length->ad=some ⟨b,off,none⟩)/\∀k,k<(asks ⟨sc,sd,sa,sb,se⟩).length->w'.cell? ⟨b,off+k,none⟩=some (.int .i64 ((asks ⟨sc,sd,sa,sb,se⟩).getD k 0))):=
  (mS sc sd sa sb se _).mono fun e w' ⟨v,he,⟨ad,b,off,cap,hv,h1,h2⟩,hb⟩=>by
   subst hv
   exact ⟨ad,cap,he,HK.out.below hb,b,off,fun h=>(h1 h).1,h2⟩
 obtain ⟨n,hn⟩:∃n,n=(asks ⟨sc,sd,sa,sb,se⟩).length:=⟨_,rfl⟩
 rw[<-hn] at hask
 have Hn:Hid (n=(asks ⟨sc,sd,sa,sb,se⟩).length):=hn
 clear hn
 go_enter Tryz.func59,Tryz.ntmps59
 go_upto_region 1 with fail
 rw[<-hU,<-hq]
 have HW:Hid (q=w.heap.size):=hq
 clear hU hq
 go_wp2_with (go_at_call 13;refine hask.mono ?_;rintro e w1 ⟨ad,cap,rfl,HX⟩;clear hask)
 clear c0 c1 c2 c3 c4
 have HX1:Hid (NQ P A q fb m f ⟨sc,sd,sa,sb,se⟩ vO old w w1):=HX.out.1
 obtain ⟨b,off,hz1,hz2⟩:=HX.out.2
 have HZ:Hid (0<n->ad=some ⟨b,off,none⟩):=hz1
 have HZ2:Hid (∀k,k<n->w1.cell? ⟨b,off+k,none⟩=some (.int .i64 ((asks ⟨sc,sd,sa,sb,se⟩).getD k 0))):=hz2
 have HN:Hid (n≤3):=by unfold Hid;rw[Hn.out];unfold asks;split<;>(try split)<;>(try split)<;>simp
 have hn3:=HN.out
 clear HX hz1 hz2 HK
 go_loopw [15] (fun i wr=>∃k:Nat,k≤n/\i=.int .i64 k/\Hid (∀j,j<k->(f.kn ((asks ⟨sc,sd,sa,sb,se⟩).getD j 0)).isSome=true)/\Hid (Below w1.heap.size w1 wr)) (fun i _=>n-(intOf i).toNat)
 case atStart=>exact ⟨0,Nat.zero_le _,rfl,fun j hj=>by omega,Below.refl _ _⟩
 case round=>
  obtain ⟨k,hk,rfl,HA,HB⟩:=hrel
  by_cases hlt:k<n
  ·have hix:=Nx.Jr ad b off n cap k hlt HZ.out
   obtain ⟨x,hx⟩:∃x,x=(asks ⟨sc,sd,sa,sb,se⟩).getD k 0:=⟨_,rfl⟩
   have cx:wr.cell? ⟨b,off+k,none⟩=some (.int .i64 x):=by rw[hx];exact Nx.aZ HB.out (HZ2.out k hlt)
   have HXX:Hid _:=hx
   clear hx
   obtain ⟨⟨c,hc⟩,-⟩:=(HX1.out.below HB.out).fld
   obtain ⟨c0,-,-,-,-⟩:=hc.cells
   have hlk:=hc.look (p:=x) (by rw[HXX.out];exact HS.out.2.2.1 _ (by rw[List.getD_eq_getElem?_getD,List.getElem?_eq_getElem (by rw[<-Hn.out];exact hlt)];exact List.getElem_mem _))
   clear hc
   have HLT:Hid (k<n):=hlt
   cases hkn:f.kn x with
   | none=>
    have hlk':(Instr.lookup 58 (.map (some c.bk)) (.int .i64 x) true).run Tryz.prog wr=.ok (.tuple #[.int .i64 0,.bool false]) wr:=by rw[hkn] at hlk;exact hlk
    have HR:Hid (Nx.qS f.kn old ⟨sc,sd,sa,sb,se⟩=none):=by
     unfold Hid Nx.qS
     rw[if_neg]
     intro h
     have:=List.all_eq_true.1 h x (by rw[HXX.out,List.getD_eq_getElem?_getD,List.getElem?_eq_getElem (by rw[<-Hn.out];exact hlt)];exact List.getElem_mem _)
     simp[hkn] at this
    clear hlk hkn
    go_wp2_with fail
    go_ret2
    exact ⟨by rw[HR.out];rfl,(HX1.out.below HB.out).bel⟩
   | some y=>
    have hlk':(Instr.lookup 58 (.map (some c.bk)) (.int .i64 x) true).run Tryz.prog wr=.ok (.tuple #[.int .i64 y,.bool true]) wr:=by rw[hkn] at hlk;exact hlk
    have HKN:Hid (f.kn x=some y):=hkn
    clear hlk hkn
    go_wp2_with fail
    go_roundw
    case rel=>exact ⟨k+1,by omega,by go_num,fun j hj=>by
     by_cases e:j=k
     ·rw[e,<-HXX.out,HKN.out];rfl
     ·exact HA.out j (by omega),HB.out⟩
    case measure=>simp[intOf];omega
  ·have HQ:=HX1.out.below HB.out
   obtain ⟨c0,c1,c2,c3,c4⟩:=iT HQ.box
   simp only at c0 c1 c2 c3 c4
   have hall:(asks ⟨sc,sd,sa,sb,se⟩).all (fun p=>(f.kn p).isSome)=true:=List.all_eq_true.2 fun y hy=>by
    obtain ⟨j,hj,rfl⟩:=List.getElem_of_mem hy
    have:=HA.out j (by rw[<-Hn.out] at hj;omega)
    simpa [List.getD_eq_getElem?_getD,hj] using this
   have HO:Hid (bL A wr vO old):=HQ.old
   have HBL:Hid (Below w.heap.size w wr):=HQ.bel
   have HF:Hid (pP P wr fb m f):=HQ.fld
   have HE:Hid (Nx.qS f.kn old ⟨sc,sd,sa,sb,se⟩=some (if sc=1 then Nx.get old sa else if sc=2 then (f.kn sa).getD 0 else if sc=4\/sc=5 then vA sc ((f.kn sa).getD 0) else vZ sc ((f.kn sa).getD 0) ((f.kn sb).getD 0))):=by unfold Hid Nx.qS;rw[if_pos hall]
   have HAL:Hid _:=hall
   clear HQ hall HB HX1 HZ HZ2 HA HN
   by_cases k1:sc=1
   ·obtain ⟨y,hy⟩:∃y,y=Nx.get old sa:=⟨_,rfl⟩
    have HV:Hid (Nx.qS f.kn old ⟨sc,sd,sa,sb,se⟩=some y):=by rw[hy,HE.out,if_pos k1];exact rfl
    obtain ⟨adO,bO,oO,cO,rfl,p1,p2⟩:=HO.out
    have h1:=HS.out.2.2.2 k1
    have hix:=ixO adO bO oO old.length cO sa h1.1 h1.2 (fun h=>(p1 h).1)
    have cy:wr.cell? ⟨bO,oO+sa.toNat,none⟩=some (.int .i64 y):=by rw[hy,Nx.get,if_pos h1.1];exact p2 _ (by omega)
    have t1:(sc==1)=true:=by simp[k1]
    clear hy p1 p2 h1 k1 HE
    go_wp2_with fail
    go_ret2
    exact ⟨by rw[HV.out];rfl,HBL.out⟩
   ·have t1:(sc==1)=false:=by simp[k1]
    obtain ⟨⟨c,hc⟩,-⟩:=HF.out
    obtain ⟨d0,-,-,-,-⟩:=hc.cells
    have hNa:eF sa:=HS.out.2.2.1 _ (Sc k1 HS.out.1)
    have hla:=(hc.carry (w':=wr.drew) (Q:=P) fun _ hx _=>⟨hx,rfl⟩).look1 (p:=sa) hNa
    obtain ⟨ya,hya⟩:∃ya,ya=(f.kn sa).getD 0:=⟨_,rfl⟩
    rw[<-hya] at hla
    by_cases k2:sc=2
    ·have HV:Hid (Nx.qS f.kn old ⟨sc,sd,sa,sb,se⟩=some ya):=by rw[HE.out,if_neg k1,if_pos k2,hya];exact rfl
     have t2:(sc==2)=true:=by simp[k2]
     clear hc k1 k2 HE hya
     go_upto_region 12 with fail
     go_region
     all_goals
      go_wp2_with fail
      go_ret2
      exact ⟨by rw[HV.out];rfl,HBL.out.drew⟩
    ·have t2:(sc==2)=false:=by simp[k2]
     by_cases k4:sc=4\/sc=5
     ·have HV:Hid (Nx.qS f.kn old ⟨sc,sd,sa,sb,se⟩=some (vA sc ya)):=by rw[HE.out,if_neg k1,if_neg k2,if_pos k4,hya];exact rfl
      have hone:=E9 sc ya
      obtain ⟨z,hz⟩:∃z,z=vA sc ya:=⟨_,rfl⟩
      rw[<-hz] at hone HV
      clear hc k1 k2 HE hz hya
      rcases k4 with k4|k4
      ·have t4:(sc==4)=true:=by simp[k4]
       clear k4
       go_upto_region 15 with fail
       go_region_law (go_simp;go_at_call 101;refine (hone _).mono ?_;rintro e w5 ⟨rfl,hw5⟩;obtain rfl:=hw5.symm)
       all_goals
        go_wp2_with fail
        go_ret2
        exact ⟨by rw[HV.out];rfl,HBL.out.drew⟩
      ·have t4:(sc==4)=false:=by simp[k4]
       have t5:(sc==5)=true:=by simp[k4]
       clear k4
       go_upto_region 15 with fail
       go_region_law (go_simp;go_at_call 101;refine (hone _).mono ?_;rintro e w5 ⟨rfl,hw5⟩;obtain rfl:=hw5.symm)
       all_goals
        go_wp2_with fail
        go_ret2
        exact ⟨by rw[HV.out];rfl,HBL.out.drew⟩
     ·have t4:(sc==4)=false:=by simp;omega
      have t5:(sc==5)=false:=by simp;omega
      have hNb:eF sb:=HS.out.2.2.1 _ (aA3 k1 k2 k4 HS.out.1)
      have hlb:=(hc.carry (w':=wr.drew) (Q:=P) fun _ hx _=>⟨hx,rfl⟩).look1 (p:=sb) hNb
      obtain ⟨yb,hyb⟩:∃yb,yb=(f.kn sb).getD 0:=⟨_,rfl⟩
      rw[<-hyb] at hlb
      obtain ⟨z,hz⟩:∃z,z=vZ sc ya yb:=⟨_,rfl⟩
      have HV:Hid (Nx.qS f.kn old ⟨sc,sd,sa,sb,se⟩=some z):=by rw[HE.out,if_neg k1,if_neg k2,if_neg k4,hz,hya,hyb];exact rfl
      have htwo:∀V,Calls Tryz.prog 102 #[.int .i64 sc,.int .i64 ya,.int .i64 yb] V fun e w'=>e=.returned (.int .i64 z)/\Below V.heap.size V w':=fun V=>(C5 sc ya yb V).mono fun e w' ⟨he,hw⟩=>⟨by rw[hz];exact he,by rw[hw];exact aC _ _⟩
      have hcw:=fun d os=>hc.carry (w':=grow (redrawn wr d) os) (Q:=P) fun b hx hl=>⟨hx,(below_regrown wr d os).block b hl⟩
      have qa:=fun d os=>(hcw d os).look1 (p:=sa) hNa
      have qb:=fun d os=>(hcw d os).look1 (p:=sb) hNb
      rw[<-hya] at qa
      rw[<-hyb] at qb
      have qt:=fun d os=>Nx.Xc sc ya yb wr d os
      rw[<-hz] at qt
      have e0:=fun d os=>cell_regrown c0 d os
      have e2:=fun d os=>cell_regrown c2 d os
      have e3:=fun d os=>cell_regrown c3 d os
      have e5:=fun d os=>cell_regrown d0 d os
      clear hc k1 k2 k4 HE hz hya hyb hla hlb hcw htwo
      go_upto_region 16 with fail
      refine wp_region_quiet_below (by kernel_rfl) (by kernel_rfl) ?_
      repeat (quiet_step (exact qt _ _))
      refine wpQuiet_nil ?_
      intro _ hw'
      obtain ⟨⟨dq,osq⟩,hw''⟩:=hw'
      subst hw''
      go_wp2_with fail
      go_ret2
      exact ⟨by rw[HV.out];rfl,aN HBL.out (below_regrown _ dq osq)⟩
end
end Fw
end
end Go.Proofs.YtcdbhoknhnimcaaGreatDoor
