import Derived.Test.YtcdbhoknhnimcaaGreatDoorTRreg0
import Derived.Deep.RegionHeld3
import Derived.Deep.DeepCutAuto
import Derived.StillTailTactics
set_option maxRecDepth 100000
set_option maxHeartbeats 16000000
namespace Go.Proofs.YtcdbhoknhnimcaaGreatDoor
section
open Go.RowKit Px
abbrev Xp (fi la:Bool):Array Value:=qG [] fi la (.slice none 0 0) (.slice none 0 0) (.slice none 0 0) (.pointer none) (.slice none 0 0) (.slice none 0 0)
abbrev Z0:Array Value:=#[.string ⟨#[]⟩,.bool false,.bool false,.slice none 0 0,.slice none 0 0,.slice none 0 0,.pointer none,.slice none 0 0,.slice none 0 0]
theorem nine {w:World}{b:Nat}{fi la:Bool}(h:w.heap[b]?=some (.cells (Xp fi la) 256 (0,0))):w.cell? ⟨b,0,none⟩=some (sv [])/\w.cell? ⟨b,1,none⟩=some (.bool fi)/\w.cell? ⟨b,2,none⟩=some (.bool la)/\w.cell? ⟨b,3,none⟩=some (.slice none 0 0)/\w.cell? ⟨b,4,none⟩=some (.slice none 0 0)/\w.cell? ⟨b,5,none⟩=some (.slice none 0 0)/\w.cell? ⟨b,6,none⟩=some (.pointer none)/\w.cell? ⟨b,7,none⟩=some (.slice none 0 0)/\w.cell? ⟨b,8,none⟩=some (.slice none 0 0)/\∀o,w.frozen? ⟨b,o,none⟩=false:=by
 refine ⟨?_,?_,?_,?_,?_,?_,?_,?_,?_,fun o=>by simp[World.frozen?,h]⟩<;>(rw[cell_of_row _ _ _ _ _ _ h];rfl)
def Wx (C:dT) (w:World) (j c ins:Nat) (b1 b2:Bool) (s:Value) (wc:World):Prop:=
 ∃sb,s=.pointer (some ⟨sb,0,none⟩)/\w.heap.size≤sb/\wc.heap[sb]?=some (.cells (Xp b1 b2) 256 (0,0))/\PS C wc j c ins 0/\Fr w.heap.size [C.rb] w wc
theorem Od {w:World}{b:Nat}{fi la:Bool}(h:w.heap[b]?=some (.cells (Xp false false) 256 (0,0))) :
    (((((((((w.setCell ⟨b,0,none⟩ (.string ⟨#[]⟩)).setCell ⟨b,1,none⟩ (.bool fi)).setCell ⟨b,2,none⟩ (.bool la)).setCell ⟨b,3,none⟩ (.slice none 0 0)).setCell ⟨b,4,none⟩ (.slice none 0 0)).setCell ⟨b,5,none⟩ (.slice none 0 0)).setCell ⟨b,6,none⟩ (.pointer none)).setCell ⟨b,7,none⟩ (.slice none 0 0)).setCell ⟨b,8,none⟩ (.slice none 0 0)).heap[b]?=some (.cells (Xp fi la) 256 (0,0)):=by
 have h0:(w.setCell ⟨b,0,none⟩ (.string ⟨#[]⟩)).heap[b]?=some (.cells #[.string ⟨#[]⟩,.bool false,.bool false,.slice none 0 0,.slice none 0 0,.slice none 0 0,.pointer none,.slice none 0 0,.slice none 0 0] 256 (0,0)):=by rw[heap_setCell_same _ b 0 _ 256 _ h];rfl
 have h1:((w.setCell ⟨b,0,none⟩ (.string ⟨#[]⟩)).setCell ⟨b,1,none⟩ (.bool fi)).heap[b]?=some (.cells #[.string ⟨#[]⟩,.bool fi,.bool false,.slice none 0 0,.slice none 0 0,.slice none 0 0,.pointer none,.slice none 0 0,.slice none 0 0] 256 (0,0)):=by rw[heap_setCell_same _ b 1 _ 256 _ h0];rfl
 have h2:(((w.setCell ⟨b,0,none⟩ (.string ⟨#[]⟩)).setCell ⟨b,1,none⟩ (.bool fi)).setCell ⟨b,2,none⟩ (.bool la)).heap[b]?=some (.cells #[.string ⟨#[]⟩,.bool fi,.bool la,.slice none 0 0,.slice none 0 0,.slice none 0 0,.pointer none,.slice none 0 0,.slice none 0 0] 256 (0,0)):=by rw[heap_setCell_same _ b 2 _ 256 _ h1];rfl
 have h3:((((w.setCell ⟨b,0,none⟩ (.string ⟨#[]⟩)).setCell ⟨b,1,none⟩ (.bool fi)).setCell ⟨b,2,none⟩ (.bool la)).setCell ⟨b,3,none⟩ (.slice none 0 0)).heap[b]?=some (.cells #[.string ⟨#[]⟩,.bool fi,.bool la,.slice none 0 0,.slice none 0 0,.slice none 0 0,.pointer none,.slice none 0 0,.slice none 0 0] 256 (0,0)):=by rw[heap_setCell_same _ b 3 _ 256 _ h2];rfl
 have h4:(((((w.setCell ⟨b,0,none⟩ (.string ⟨#[]⟩)).setCell ⟨b,1,none⟩ (.bool fi)).setCell ⟨b,2,none⟩ (.bool la)).setCell ⟨b,3,none⟩ (.slice none 0 0)).setCell ⟨b,4,none⟩ (.slice none 0 0)).heap[b]?=some (.cells #[.string ⟨#[]⟩,.bool fi,.bool la,.slice none 0 0,.slice none 0 0,.slice none 0 0,.pointer none,.slice none 0 0,.slice none 0 0] 256 (0,0)):=by rw[heap_setCell_same _ b 4 _ 256 _ h3];rfl
 have h5:((((((w.setCell ⟨b,0,none⟩ (.string ⟨#[]⟩)).setCell ⟨b,1,none⟩ (.bool fi)).setCell ⟨b,2,none⟩ (.bool la)).setCell ⟨b,3,none⟩ (.slice none 0 0)).setCell ⟨b,4,none⟩ (.slice none 0 0)).setCell ⟨b,5,none⟩ (.slice none 0 0)).heap[b]?=some (.cells #[.string ⟨#[]⟩,.bool fi,.bool la,.slice none 0 0,.slice none 0 0,.slice none 0 0,.pointer none,.slice none 0 0,.slice none 0 0] 256 (0,0)):=by rw[heap_setCell_same _ b 5 _ 256 _ h4];rfl
 have h6:(((((((w.setCell ⟨b,0,none⟩ (.string ⟨#[]⟩)).setCell ⟨b,1,none⟩ (.bool fi)).setCell ⟨b,2,none⟩ (.bool la)).setCell ⟨b,3,none⟩ (.slice none 0 0)).setCell ⟨b,4,none⟩ (.slice none 0 0)).setCell ⟨b,5,none⟩ (.slice none 0 0)).setCell ⟨b,6,none⟩ (.pointer none)).heap[b]?=some (.cells #[.string ⟨#[]⟩,.bool fi,.bool la,.slice none 0 0,.slice none 0 0,.slice none 0 0,.pointer none,.slice none 0 0,.slice none 0 0] 256 (0,0)):=by rw[heap_setCell_same _ b 6 _ 256 _ h5];rfl
 have h7:((((((((w.setCell ⟨b,0,none⟩ (.string ⟨#[]⟩)).setCell ⟨b,1,none⟩ (.bool fi)).setCell ⟨b,2,none⟩ (.bool la)).setCell ⟨b,3,none⟩ (.slice none 0 0)).setCell ⟨b,4,none⟩ (.slice none 0 0)).setCell ⟨b,5,none⟩ (.slice none 0 0)).setCell ⟨b,6,none⟩ (.pointer none)).setCell ⟨b,7,none⟩ (.slice none 0 0)).heap[b]?=some (.cells #[.string ⟨#[]⟩,.bool fi,.bool la,.slice none 0 0,.slice none 0 0,.slice none 0 0,.pointer none,.slice none 0 0,.slice none 0 0] 256 (0,0)):=by rw[heap_setCell_same _ b 7 _ 256 _ h6];rfl
 have h8:(((((((((w.setCell ⟨b,0,none⟩ (.string ⟨#[]⟩)).setCell ⟨b,1,none⟩ (.bool fi)).setCell ⟨b,2,none⟩ (.bool la)).setCell ⟨b,3,none⟩ (.slice none 0 0)).setCell ⟨b,4,none⟩ (.slice none 0 0)).setCell ⟨b,5,none⟩ (.slice none 0 0)).setCell ⟨b,6,none⟩ (.pointer none)).setCell ⟨b,7,none⟩ (.slice none 0 0)).setCell ⟨b,8,none⟩ (.slice none 0 0)).heap[b]?=some (.cells #[.string ⟨#[]⟩,.bool fi,.bool la,.slice none 0 0,.slice none 0 0,.slice none 0 0,.pointer none,.slice none 0 0,.slice none 0 0] 256 (0,0)):=by rw[heap_setCell_same _ b 8 _ 256 _ h7];rfl
 exact h8
section
variable {C:dT}{w w2:World}{j c ins:Nat}{b1 b2:Bool}
theorem Py (hp:PS C w2 j c ins 0) (hf:Fr w.heap.size [C.rb] w w2):Wx C w j c ins b1 b2 (.pointer (some ⟨w2.heap.size,0,none⟩)) (w2.alloc (.cells #[.string ⟨#[]⟩,.bool b1,.bool b2,.slice none 0 0,.slice none 0 0,.slice none 0 0,.pointer none,.slice none 0 0,.slice none 0 0] 256)):=
 ⟨_,rfl,hf.size,heap_alloc_new w2 _,(hp.alloc _).1,hf.up (hp.alloc _).2⟩
theorem Y8 (sb:Nat) (hb:w2.heap[sb]?=some (.cells (Xp false false) 256 (0,0))) (hsb:w.heap.size≤sb) (hC:C.rb<w.heap.size) (hp:PS C w2 j c ins 0) (hf:Fr w.heap.size [C.rb] w w2) :
    Wx C w j c ins b1 b2 (.pointer (some ⟨sb,0,none⟩)) (((((((((w2.setCell ⟨sb,0,none⟩ (.string ⟨#[]⟩)).setCell ⟨sb,1,none⟩ (.bool b1)).setCell ⟨sb,2,none⟩ (.bool b2)).setCell ⟨sb,3,none⟩ (.slice none 0 0)).setCell ⟨sb,4,none⟩ (.slice none 0 0)).setCell ⟨sb,5,none⟩ (.slice none 0 0)).setCell ⟨sb,6,none⟩ (.pointer none)).setCell ⟨sb,7,none⟩ (.slice none 0 0)).setCell ⟨sb,8,none⟩ (.slice none 0 0)):=
 have hr:C.rb<sb:=by omega
 ⟨sb,rfl,hsb,Od hb,((((((((hp.put hr 0 _).put hr 1 _).put hr 2 _).put hr 3 _).put hr 4 _).put hr 5 _).put hr 6 _).put hr 7 _).put hr 8 _,((((((((hf.setCell (.inl hsb) _).setCell (.inl hsb) _).setCell (.inl hsb) _).setCell (.inl hsb) _).setCell (.inl hsb) _).setCell (.inl hsb) _).setCell (.inl hsb) _).setCell (.inl hsb) _).setCell (.inl hsb) _⟩
end
theorem oJ.carryX {X:List Nat}{k B:Nat}{w w':World}{l:List (cC (St k))}{v:Value}{xs:List Value}(h:oJ k B w l v xs) (hX:∀x∈X,x<B) (hf:Fr w.heap.size X w w'):oJ k B w' l v xs:=by
 have kp:aX (jT B v) (jT B v) w w':=hf.keep (fun b hb hm=>by have:=hX b hm;have:=hb.1;omega)
 exact ⟨aC7 h.own hX hf,h.rows.map (Ax.carry kp (aL.carry kp k))⟩
def oP (L:List Lx.fK) (k:Nat) (l:List (cC (St k))) (c i:Nat):Except F (Option (List (cC (St k))×Nat×Nat)):=
 if tx L i=dO\/tx L i=gX\/tx L i=gV then
  match cJ L (St k) (aU L k) (decide (tx L i=dO)) (decide (tx L (jU L dO i)=gX)) c (jU L gX (jU L dO i)) with
  | .error x=>.error x
  | .ok (s,c',j)=>.ok (some (l++[s],c',j))
 else .ok none
structure RE (C:dT) (B ba vb:Nat) (w:World) (v:Value):Prop where
 a:w.cell? ⟨ba,0,none⟩=some (.pointer (some ⟨C.rb,0,none⟩))
 v:w.heap[vb]?=some (.cells #[v] 210 (0,0))
 la:ba<B
 lv:vb<B
 na:C.rb<ba
 nv:C.rb<vb
 nav:ba≠vb
 lr:C.rb<B
 hB:B≤w.heap.size
theorem RE.low {C:dT}{B ba vb:Nat}{w w':World}{v:Value}(h:RE C B ba vb w v) (hf:Fr B [C.rb] w w'):RE C B ba vb w' v:=by
 have h1:=h.na
 have h2:=h.nv
 exact ⟨by rw[hf.cell (p:=⟨ba,0,none⟩) h.la (by simp;omega)];exact h.a,by rw[hf.block vb h.lv (by simp;omega)];exact h.v,h.la,h.lv,h1,h2,h.nav,h.lr,Nat.le_trans h.hB hf.size⟩
theorem RE.carry {C:dT}{B ba vb:Nat}{w w':World}{v:Value}(h:RE C B ba vb w v) (hf:Fr w.heap.size [C.rb] w w'):RE C B ba vb w' v:=h.low (hf.mono h.hB (by simp))
theorem RE.put {C:dT}{B ba vb:Nat}{w:World}{v:Value}(h:RE C B ba vb w v) (v':Value):RE C B ba vb (w.setCell ⟨vb,0,none⟩ v') v':=by
 have h1:=h.la
 have h3:=h.hB
 have hf:=cP w vb 0 v'
 refine ⟨?_,?_,h.la,h.lv,h.na,h.nv,h.nav,h.lr,Nat.le_trans h.hB hf.size⟩
 ·rw[hf.cell (p:=⟨ba,0,none⟩) (by show ba<_;omega) (by simp;exact h.nav)];exact h.a
 ·rw[heap_setCell_same w vb 0 _ _ _ h.v];rfl
def aH2 (C:dT) (k B ba vb ins i c:Nat) (l:List (cC (St k))):Option (List (cC (St k))×Nat×Nat)->Value->World->Prop
 | none,v,w'=>v=.bool false/\PS C w' i c ins 0/\∃u xs,RE C B ba vb w' u/\oJ k B w' l u xs
 | some (l',c',j),v,w'=>v=.bool true/\i<j/\l'.length≤j/\PS C w' j c' ins 0/\∃u xs,RE C B ba vb w' u/\oJ k B w' l' u xs
theorem U7 {C:dT}{k B ba vb:Nat}{w:World}{i c ins:Nat}{l:List (cC (St k))}{u:Value}{xs:List Value}(h:PS C w i c ins 0) (hE:RE C B ba vb w u) (hS:oJ k B w l u xs) (hl:l.length≤i) (hR:Region C k) (hk:ins+k=6):Calls Tryz.prog 191 #[.pointer (some ⟨ba,0,none⟩),.pointer (some ⟨vb,0,none⟩)] w (lE B [C.rb,vb] (aH2 C k B ba vb ins i c l) w (oP C.L k l c i)):=by
 have hx:=hE.a
 have hba:ba<w.heap.size:=Nat.lt_of_lt_of_le hE.la hE.hB
 have hbr:ba≠C.rb:=by have:=hE.na;omega
 have hl0:=hS.own
 obtain ⟨ao,cap,rfl⟩:=aJ hl0
 obtain ⟨i0,hi,hz0,hz1,hz2'⟩:=info_parts Tryz.infoState
 have hC:=h.lts.1
 obtain ⟨hpA,hfA⟩:=h.new (.cells Z0 256)
 have hdr:Fr w.heap.size [] w w.drew:=(Fr.refl _ _ _).drew
 have hpB:=h.same hdr
 obtain ⟨b1,hb1⟩:∃x,Hid (x=decide (tx C.L i=dO)):=⟨_,rfl⟩
 obtain ⟨i1,hi1⟩:∃x,Hid (x=jU C.L dO i):=⟨_,rfl⟩
 obtain ⟨b2,hb2⟩:∃x,Hid (x=decide (tx C.L i1=gX)):=⟨_,rfl⟩
 obtain ⟨j,hj⟩:∃x,Hid (x=jU C.L gX i1):=⟨_,rfl⟩
 have c1:∀W,PS C W i c ins 0->Calls Tryz.prog 140 #[.pointer (some ⟨C.rb,0,none⟩),.string ⟨#[105,110,105,116,105,97,108]⟩] W fun e w'=>e=.returned (.bool b1)/\PS C w' i1 c ins 0/\Fr W.heap.size [C.rb] W w':=fun W hW=>by rw[hb1.out,hi1.out];exact dQ hW _ dO rfl (by decide)
 have c2:∀W,PS C W i1 c ins 0->Calls Tryz.prog 140 #[.pointer (some ⟨C.rb,0,none⟩),.string ⟨#[102,105,110,97,108]⟩] W fun e w'=>e=.returned (.bool b2)/\PS C w' j c ins 0/\Fr W.heap.size [C.rb] W w':=fun W hW=>by rw[hb2.out,hj.out];exact dQ hW _ gX rfl (by decide)
 have hcx:∀(W W':World),W.cell? ⟨ba,0,none⟩=some (.pointer (some ⟨C.rb,0,none⟩))->ba<W.heap.size->Fr W.heap.size [C.rb] W W'->W'.cell? ⟨ba,0,none⟩=some (.pointer (some ⟨C.rb,0,none⟩)):=fun W W' h1 h2 hf=>by rw[hf.cell (p:=⟨ba,0,none⟩) h2 (by simp;exact hbr)];exact h1
 have HCX:Hid _:=hcx
 clear hcx
 have hbA:((w.alloc (.cells Z0 256)).drew).heap[w.heap.size]?=some (.cells (Xp false false) 256 (0,0)):=heap_alloc_new w _
 have hxA:((w.alloc (.cells Z0 256)).drew).cell? ⟨ba,0,none⟩=some (.pointer (some ⟨C.rb,0,none⟩)):=by rw[hfA.cell (p:=⟨ba,0,none⟩) hba (by simp)];exact hx
 have hbaA:ba<((w.alloc (.cells Z0 256)).drew).heap.size:=Nat.lt_of_lt_of_le hba hfA.size
 have hxB:w.drew.cell? ⟨ba,0,none⟩=some (.pointer (some ⟨C.rb,0,none⟩)):=hx
 have T1:Hid True:=trivial
 have T2:Hid True:=trivial
 go_enter Tryz.func191,Tryz.ntmps191
 go_upto_region 1 with fail
 go_cut [3] (fun s3 wc=>Hid (Wx C w j c ins b1 b2 s3 wc))
 case first=>
  go_region_law
   (first
    | (go_simp;go_at_call 140;clear T1;(with_reducible refine (c1 _ hpB).mono ?_);rintro e1 w1 ⟨rfl,hp1,hf1⟩;have hx1:=HCX.out _ _ hxB hba hf1;have hz1:w.heap.size≤w1.heap.size:=Nat.le_trans (Nat.le_refl _) hf1.size;obtain ⟨hpx,hfx⟩:=hp1.alloc (.cells Z0 256);have hxx:=HCX.out _ _ hx1 (Nat.lt_of_lt_of_le hba hz1) hfx)
    | (go_simp;go_at_call 140;clear T1;(with_reducible refine (c1 _ hpA).mono ?_);rintro e1 w1 ⟨rfl,hp1,hf1⟩;have hbA1:=hf1.stays hbA hC;have hx1:=HCX.out _ _ hxA hbaA hf1;have hz1:=Nat.le_trans hfA.size hf1.size;obtain ⟨hpx,hfx⟩:=hp1.alloc (.cells Z0 256);have hxx:=HCX.out _ _ hx1 (Nat.lt_of_lt_of_le hba hz1) hfx)
    | (go_simp;go_at_call 140;clear T2;(with_reducible refine (c2 _ hp1).mono ?_);rintro e1 w2 ⟨rfl,hp2,hf2⟩;try (have hbA2:=hf2.stays hbA1 hC;obtain ⟨n0,n1,n2,n3,n4,n5,n6,n7,n8,nz⟩:=nine hbA2;have nz0:=nz 0;have nz1:=nz 1;have nz2:=nz 2;have nz3:=nz 3;have nz4:=nz 4;have nz5:=nz 5;have nz6:=nz 6;have nz7:=nz 7;have nz8:=nz 8;clear nz))
    | (go_simp;go_at_call 140;clear T2;(with_reducible refine (c2 _ hpx).mono ?_);rintro e1 w2 ⟨rfl,hp2,hf2⟩;have hbB2:w2.heap[w1.heap.size]?=some (.cells (Xp false false) 256 (0,0)):=hf2.stays (heap_alloc_new w1 (.cells Z0 256)) hp1.lts.1;obtain ⟨n0,n1,n2,n3,n4,n5,n6,n7,n8,nz⟩:=nine hbB2;have nz0:=nz 0;have nz1:=nz 1;have nz2:=nz 2;have nz3:=nz 3;have nz4:=nz 4;have nz5:=nz 5;have nz6:=nz 6;have nz7:=nz 7;have nz8:=nz 8;clear nz))
  all_goals
   go_wp2_with fail
   go_meet
   show Wx _ _ _ _ _ _ _ _ _
   first
    | (have hq:=Py (b1:=b1) (b2:=b2) hp2 ((hdr.wide.up hf1).up hf2);(with_reducible exact hq))
    | (have hq:=Y8 (b1:=b1) (b2:=b2) w1.heap.size hbB2 hz1 hC hp2 (((hdr.wide.up hf1).up hfx).up hf2);(with_reducible exact hq))
    | (have hq:=Y8 (b1:=b1) (b2:=b2) w.heap.size hbA2 (Nat.le_refl _) hC hp2 ((hfA.wide.up hf1).up hf2);(with_reducible exact hq))
 case rest=>
  obtain ⟨sb,rfl,hsb,hbk,hp,hf⟩:=hcut.out
  clear hcut hpA hfA hdr hpB hbA hxA hbaA hxB c1 c2 HCX T1 T2
  have hE1:=hE.carry hf
  have hS1:=hS.carry hE.lr hf
  have hxc:=hE1.a
  obtain ⟨-,m1,m2,-⟩:=nine hbk
  obtain ⟨tb,htb⟩:∃tb:ByteArray,Hid (bs tb=tx C.L j):=⟨⟨(tx C.L j).toArray⟩,rfl⟩
  by_cases hw:tx C.L i=dO\/tx C.L i=gX\/tx C.L i=gV
  ·have HSP:Hid (oP C.L k l c i=match cJ C.L (St k) (aU C.L k) b1 b2 c j with
       | .error x=>.error x
       | .ok (s,c',j)=>.ok (some (l++[s],c',j))):=by rw[Hid,oP,if_pos hw,hb1.out,hb2.out,hj.out,hi1.out]
   have HLE:Hid (i≤j):=by
    have:=pA C.L dO i
    have:=pA C.L gX i1
    rw[Hid,hj.out]
    have e:=hi1.out
    omega
   have HKS:Hid (b1=false->b2=false->tx C.L j=gV):=fun f1 f2=>by
    have n1:tx C.L i≠dO:=fun e=>by rw[hb1.out] at f1;exact absurd e (of_decide_eq_false f1)
    have e2:i1=i:=by rw[hi1.out,jU,if_neg n1]
    have n2:tx C.L i≠gX:=fun e=>by rw[hb2.out,e2] at f2;exact absurd e (of_decide_eq_false f2)
    have e4:j=i:=by rw[hj.out,e2,jU,if_neg n2]
    rw[e4]
    rcases hw with e|e|e
    ·exact absurd e n1
    ·exact absurd e n2
    ·exact e
   clear hw
   obtain ⟨wq,hwq⟩:∃x,x=wc:=⟨_,rfl⟩
   subst hwq
   go_upto_region 2 with fail
   go_cut [21] (fun s21 wc=>Hid (s21=.bool false/\PS C wc j c ins 0/\Fr wq.heap.size [] wq wc))
   case first=>
    cases b1 with
    | true=>
     go_wp2_with fail
     go_meet
     exact ⟨rfl,hp,Fr.refl _ _ _⟩
    | false=>
     cases b2 with
     | true=>
      go_wp2_with fail
      go_meet
      exact ⟨rfl,hp,Fr.refl _ _ _⟩
     | false=>
      have h1':(tb.toList==[115,116,97,116,101])=true:=by
       rw[ByteArray.toList_eq];exact beq_iff_eq.2 (by show bs tb=gV;rw[htb.out];exact HKS.out rfl rfl)
      go_wp2_with (go_at_call 137;refine (eD hp tb htb).mono ?_;rintro e w3 ⟨rfl,hp3,hf3⟩)
      go_meet
      exact ⟨rfl,hp3,hf3⟩
   case rest=>
    obtain ⟨rfl,hp2,hf2⟩:=hcut.out
    clear hcut
    have hE2:=hE1.carry hf2.wide
    have hbk2:wc.heap[sb]?=some (.cells (Xp b1 b2) 256 (0,0)):=by rw[hf2.block sb (aB hbk) (by simp)];exact hbk
    have hrb:C.rb<sb:=by have:=hE.lr;have:=hE.hB;omega
    have hxd:=hE2.a
    have hst:=Hu (k:=k) hp2 hrb hbk2 hR hk
    have hF2:=hf.up hf2.wide
    have hz2:=hF2.size
    have hEB:=hE.hB
    have hEr:=hE.lr
    have hEv:=hE.lv
    have HTH:Hid (∀f e w5,iN wc.heap.size [C.rb,sb] wc f e w5->iN B [C.rb,vb] w f e w5):=fun f e w5 ⟨q,h1,h2,h3,h4⟩=>⟨q,h1,h2,Nat.le_trans hz2 h3,(hF2.mono hE.hB (by simp)).trans (h4.mono (by omega) (by intro x hx hlt;simp at hx ⊢;omega))⟩
    have hil:=h.lt
    have h601:=h.wf.len
    go_wp2_with (first
     | (go_at_call 192;refine hst.mono ?_;rintro e w5 h5;rcases h5.cases with ⟨f,hr5,q,rfl,hq⟩|⟨⟨s5,c5,j5⟩,v5,hr5,rfl,⟨rfl,hp5,e5,d5,l5,p5,y5,r5,xe,xd,xl,xy,xr,hU5⟩,hf5⟩;(· exact ⟨rfl,by rw[HSP.out,hr5.out];exact HTH.out _ _ _ ⟨q,rfl,hq⟩⟩);have hF5:Fr w.heap.size [C.rb] w w5:=hF2.trans (hf5.mono hz2 (by intro x hx hlt;simp at hx ⊢;omega));have hE5:=hE.carry hF5;obtain ⟨v5c,v5z⟩:=lG hE5.v 0 (Value.slice ao l.length cap) rfl;have hd5:=hU5.done;obtain ⟨⟨a1,n1,q1,rfl⟩,⟨a2,n2,q2,rfl⟩,⟨a3,n3,q3,rfl⟩,⟨u4',rfl⟩,⟨a5,n5,q5,rfl⟩,⟨a6,n6,q6,rfl⟩⟩:=hd5.shapes;have hz5:=hF5.size;have kst:aX (Ge (wc.heap.size+2)) (Ge w.heap.size) w5 w5:=(fun b hb _=>⟨by simp[Ge] at *;omega,rfl⟩);have hst':=Ax.carry kst (aL.carry kst k) _ _ hd5)
     | (refine bP rfl 256 (.tmp 3) rfl ⟨sb,0,none⟩ rfl (.agg (qG s5.name s5.first s5.last (.slice a1 n1 q1) (.slice a2 n2 q2) (.slice a3 n3 q3) (.pointer u4') (.slice a5 n5 q5) (.slice a6 n6 q6))) (Za rfl hU5.at_) ?_)
     | (at_builtin;refine wpList_append_own_at _ rfl (.tmp 24) (.tmp 26) 210 rfl B 256 i0 _ 9 152 Tryz.underlying210 hi hz0 hz1 hz2' rfl (by decide) _ _ _ rfl ((pV hS.own hE.lr hF5).alloc _) ⟨w5.heap.size,0,none⟩ 1 1 (qG s5.name s5.first s5.last (.slice a1 n1 q1) (.slice a2 n2 q2) (.slice a3 n3 q3) (.pointer u4') (.slice a5 n5 q5) (.slice a6 n6 q6)).toList rfl rfl (World.news_of_block (fr:=(0,0)) (heap_alloc_new w5 _)) (by intro x hx;simp[sv] at hx;rcases hx with rfl|rfl|rfl|rfl|rfl|rfl|rfl|rfl|rfl<;>rfl) (by unfold maxLen;omega) (by omega) (by simp;omega) ?_;intro v6 w6 hown6 hgrow _ hat;obtain ⟨ao6,cap6,rfl⟩:=aJ hown6;obtain ⟨hS6,hF6⟩:=Q4 (w:=w) (wr:=w) (s:=s5) hE.lr hE.hB hS hF5 (Fr.refl _ _ _) hst' hown6 hgrow hat;have hp6:PS C w6 j5 c5 ins 0:=hp5.low hE.lr (((Fr.refl _ _ _).alloc (by omega) _).grown hgrow (by simp;omega) (fun g hg=>.inl (hS.own.lt g hg).1));have hE6:=hE.low hF6;obtain ⟨v6c,v6z⟩:=lG hE6.v 0 (Value.slice ao l.length cap) rfl))
    go_ret
    rw[HSP.out,hr5.out]
    have hj5:=Q5 (tL k) hr5.out
    have hle:=HLE.out
    exact ⟨_,rfl,⟨rfl,by omega,by simp;omega,hp6.put hE.nv 0 _,_,_,hE6.put _,hS6.carryX (X:=[vb]) (by simp;exact hE.lv) (cP _ _ _ _)⟩,(hF6.mono (Nat.le_refl _) (by simp)).setCell (.inr (by simp)) _⟩
  ·have n1:tx C.L i≠dO:=fun e=>hw (.inl e)
   have n2:tx C.L i≠gX:=fun e=>hw (.inr (.inl e))
   have n3:tx C.L i≠gV:=fun e=>hw (.inr (.inr e))
   have e1:b1=false:=by rw[hb1.out];exact decide_eq_false n1
   have e2:i1=i:=by rw[hi1.out,jU,if_neg n1]
   have e3:b2=false:=by rw[hb2.out,e2];exact decide_eq_false n2
   have e4:j=i:=by rw[hj.out,e2,jU,if_neg n2]
   have HSP:Hid (oP C.L k l c i=.ok none):=by rw[Hid,oP,if_neg hw]
   subst e1;subst e3;subst e4
   have h1':(tb.toList==[115,116,97,116,101])=false:=by
    rw[ByteArray.toList_eq];exact beq_eq_false_iff_ne.2 (by show bs tb≠gV;rw[htb.out];exact n3)
   clear hw n1 n2 n3 e2
   go_wp2_with (go_at_call 137;refine (eD hp tb htb).mono ?_;rintro e w3 ⟨rfl,hp3,hf3⟩)
   go_ret
   rw[HSP.out]
   exact ⟨_,rfl,⟨rfl,hp3,_,xs,hE1.carry hf3.wide,hS1.carry hE.lr hf3.wide⟩,((hf.up hf3.wide).mono hE.hB (by simp))⟩
end
section
open Go.RowKit Px
theorem yW {C:dT}{w:World}{i st ins:Nat}{c1 c2:Value}(h:PS C w i st ins 0) (R:Ending->World->Prop) (Inv:Nat->World->Prop) (Fin:World->Prop) (g0:Nat)
    (herr:tx C.L i≠eT->∀e w',aP C w (3,pl C.L i) e w'->R e w')
    (hstart:tx C.L i=eT->∀w1,PS C w1 (i+1) st ins 0->Fr w.heap.size [C.rb] w w1->Inv g0 w1)
    (hround:∀g w1,Inv g w1->Calls Tryz.prog 191 #[c1,c2] w1 fun e w2=>(e=.returned (.bool true)/\∃g',g'<g/\Inv g' w2)\/(e=.returned (.bool false)/\Fin w2)\/(∃ch,e=.panicked ch/\R e w2))
    (hfin:∀w2,Fin w2->∃j st',PS C w2 j st' ins 0/\(tx C.L j≠jD->∀e w3,aP C w2 (3,pl C.L j) e w3->R e w3)/\(tx C.L j=jD->∀w3,PS C w3 (j+1) st' ins 0->Fr w2.heap.size [C.rb] w2 w3->R (.returned (.tuple #[])) w3)) :
    Calls Tryz.prog 134 #[.pointer (some ⟨C.rb,0,none⟩),.func (.func 191) #[] #[c1,c2]] w R:=by
 have HE:Hid _:=herr
 have HS:Hid _:=hstart
 have HR:Hid _:=hround
 have HF:Hid _:=hfin
 clear herr hstart hround hfin
 go_enter Tryz.func134,Tryz.ntmps134
 go_wp2_with (go_at_call 132;refine (bT h ⟨#[123]⟩ eT rfl (by decide)).mono ?_;rintro e w1 h1;rcases h1.cases with ⟨f,hr1,q,rfl,hq⟩|⟨_,v1,hr1,rfl,⟨rfl,hp1⟩,hf1⟩;(· exact ⟨rfl,HE.out (aR hr1).1 _ _ (by rw[<-(aR hr1).2];exact ⟨q,rfl,hq⟩)⟩))
 have hI:Hid _:=HS.out (bF hr1) w1 hp1 hf1
 go_loopg [] g0 (fun g wr=>Hid (Inv g wr))
 case atStart=>exact hI
 case round=>
  go_wp2_with fail
  refine (HR.out _ _ hrel.out).mono ?_
  rintro e w2 (⟨rfl,g',hg',hi'⟩|⟨rfl,hfn⟩|⟨ch,rfl,hR⟩)
  ·go_wp2_with fail
   go_roundg g'
   case measure=>exact hg'
   case rel=>exact hi'
  ·obtain ⟨j,st',hp2,hb1,hb2⟩:=HF.out w2 hfn
   have HB1:Hid _:=hb1
   have HB2:Hid _:=hb2
   clear hb1 hb2
   go_wp2_with (go_at_call 132;refine (bT hp2 ⟨#[125]⟩ jD rfl (by decide)).mono ?_;rintro e w3 h3;rcases h3.cases with ⟨f,hr3,q,rfl,hq⟩|⟨_,v3,hr3,rfl,⟨rfl,hp3⟩,hf3⟩;(· exact ⟨rfl,HB1.out (aR hr3).1 _ _ (by rw[<-(aR hr3).2];exact ⟨q,rfl,hq⟩)⟩))
   go_end0
   exact HB2.out (bF hr3) w3 hp3 hf3
  ·exact ⟨rfl,hR⟩
theorem J1 {C:dT}{w:World}{i st ins:Nat}{c1 c2:Value}(h:PS C w i st ins 0) (R:Ending->World->Prop) (Inv:Nat->World->Prop) (Fin:World->Prop) (g0:Nat)
    (herr:tx C.L i≠eT->∀e w',aP C w (3,pl C.L i) e w'->R e w')
    (hstart:tx C.L i=eT->∀w1,PS C w1 (i+1) st ins 0->Fr w.heap.size [C.rb] w w1->Inv g0 w1)
    (hround:∀g w1,Inv g w1->Calls Tryz.prog 135 #[c1,c2] w1 fun e w2=>(e=.returned (.bool true)/\∃g',g'<g/\Inv g' w2)\/(e=.returned (.bool false)/\Fin w2)\/(∃ch,e=.panicked ch/\R e w2))
    (hfin:∀w2,Fin w2->∃j st',PS C w2 j st' ins 0/\(tx C.L j≠jD->∀e w3,aP C w2 (3,pl C.L j) e w3->R e w3)/\(tx C.L j=jD->∀w3,PS C w3 (j+1) st' ins 0->Fr w2.heap.size [C.rb] w2 w3->R (.returned (.tuple #[])) w3)) :
    Calls Tryz.prog 134 #[.pointer (some ⟨C.rb,0,none⟩),.func (.func 135) #[] #[c1,c2]] w R:=by
 have HE:Hid _:=herr
 have HS:Hid _:=hstart
 have HR:Hid _:=hround
 have HF:Hid _:=hfin
 clear herr hstart hround hfin
 go_enter Tryz.func134,Tryz.ntmps134
 go_wp2_with (go_at_call 132;refine (bT h ⟨#[123]⟩ eT rfl (by decide)).mono ?_;rintro e w1 h1;rcases h1.cases with ⟨f,hr1,q,rfl,hq⟩|⟨_,v1,hr1,rfl,⟨rfl,hp1⟩,hf1⟩;(· exact ⟨rfl,HE.out (aR hr1).1 _ _ (by rw[<-(aR hr1).2];exact ⟨q,rfl,hq⟩)⟩))
 have hI:Hid _:=HS.out (bF hr1) w1 hp1 hf1
 go_loopg [] g0 (fun g wr=>Hid (Inv g wr))
 case atStart=>exact hI
 case round=>
  go_wp2_with fail
  refine (HR.out _ _ hrel.out).mono ?_
  rintro e w2 (⟨rfl,g',hg',hi'⟩|⟨rfl,hfn⟩|⟨ch,rfl,hR⟩)
  ·go_wp2_with fail
   go_roundg g'
   case measure=>exact hg'
   case rel=>exact hi'
  ·obtain ⟨j,st',hp2,hb1,hb2⟩:=HF.out w2 hfn
   have HB1:Hid _:=hb1
   have HB2:Hid _:=hb2
   clear hb1 hb2
   go_wp2_with (go_at_call 132;refine (bT hp2 ⟨#[125]⟩ jD rfl (by decide)).mono ?_;rintro e w3 h3;rcases h3.cases with ⟨f,hr3,q,rfl,hq⟩|⟨_,v3,hr3,rfl,⟨rfl,hp3⟩,hf3⟩;(· exact ⟨rfl,HB1.out (aR hr3).1 _ _ (by rw[<-(aR hr3).2];exact ⟨q,rfl,hq⟩)⟩))
   go_end0
   exact HB2.out (bF hr3) w3 hp3 hf3
  ·exact ⟨rfl,hR⟩
theorem Mm {L:List Lx.fK}{k g c i:Nat}{l:List (cC (St k))}{f:F}(h:oP L k l c i=.error f):states L (St k) (aU L k) (g+1) l c i=.error f:=by
 rw[oP] at h
 by_cases hw:tx L i=dO\/tx L i=gX\/tx L i=gV
 ·rw[if_pos hw] at h
  rw[states,if_pos hw]
  split at h
  ·rename_i hs;injection h with h;subst h;rw[hs]
  ·exact absurd h (by simp)
 ·rw[if_neg hw] at h;exact absurd h (by simp)
theorem Ho {L:List Lx.fK}{k g c i c' j:Nat}{l l':List (cC (St k))}(h:oP L k l c i=.ok (some (l',c',j))):states L (St k) (aU L k) (g+1) l c i=states L (St k) (aU L k) g l' c' j:=by
 rw[oP] at h
 by_cases hw:tx L i=dO\/tx L i=gX\/tx L i=gV
 ·rw[if_pos hw] at h
  rw[states,if_pos hw]
  split at h
  ·exact absurd h (by simp)
  ·rename_i hs
   rw[hs]
   injection h with h;injection h with h;injection h with e1 h;injection h with e2 e3;subst e1;subst e2;subst e3
   rfl
 ·rw[if_neg hw] at h;exact absurd h (by simp)
theorem Hp {L:List Lx.fK}{k g c i:Nat}{l:List (cC (St k))}(h:oP L k l c i=.ok none):states L (St k) (aU L k) (g+1) l c i=if tx L i=jD then .ok (l,c,i+1) else .error (3,pl L i):=by
 rw[oP] at h
 by_cases hw:tx L i=dO\/tx L i=gX\/tx L i=gV
 ·rw[if_pos hw] at h
  split at h
  ·exact absurd h (by simp)
  ·exact absurd h (by simp)
 ·rw[states,if_neg hw]
def eN (C:dT) (k B ba vb ins:Nat) (x:List (cC (St k))×Nat×Nat) (v:Value) (w':World):Prop:=v=.tuple #[]/\PS C w' x.2.2 x.2.1 ins 0/\∃u xs,RE C B ba vb w' u/\oJ k B w' x.1 u xs
theorem J2 {C:dT}{k B ba vb ins i c:Nat}{w:World}{u:Value}{xs:List Value}(h:PS C w i c ins 0) (hE:RE C B ba vb w u) (hS:oJ k B w [] u xs) (hR:Region C k) (hk:ins+k=6) :
    Calls Tryz.prog 134 #[.pointer (some ⟨C.rb,0,none⟩),.func (.func 191) #[] #[.pointer (some ⟨ba,0,none⟩),.pointer (some ⟨vb,0,none⟩)]] w
     (lE B [C.rb,vb] (eN C k B ba vb ins) w (if tx C.L i=eT then states C.L (St k) (aU C.L k) C.L.length [] c (i+1) else .error (3,pl C.L i))):=by
 obtain ⟨RES,hRES⟩:∃RES,RES=(if tx C.L i=eT then states C.L (St k) (aU C.L k) C.L.length [] c (i+1) else .error (3,pl C.L i)):=⟨_,rfl⟩
 rw[<-hRES]
 refine yW h _ (fun g w1=>∃(l:List (cC (St k))) (c1 j:Nat) (u:Value) (xs:List Value),RES=states C.L (St k) (aU C.L k) g l c1 j/\C.L.length≤g+j/\l.length≤j/\PS C w1 j c1 ins 0/\RE C B ba vb w1 u/\oJ k B w1 l u xs/\Fr B [C.rb,vb] w w1)
  (fun w2=>∃(l:List (cC (St k))) (c1 j:Nat) (u:Value) (xs:List Value),RES=(if tx C.L j=jD then .ok (l,c1,j+1) else .error (3,pl C.L j))/\PS C w2 j c1 ins 0/\RE C B ba vb w2 u/\oJ k B w2 l u xs/\Fr B [C.rb,vb] w w2) C.L.length ?_ ?_ ?_ ?_
 ·intro hn e w' ht
  rw[hRES,if_neg hn]
  exact ht.x (Fr.refl _ _ _) hE.hB (by simp)
 ·intro ho w1 hp1 hf1
  exact ⟨[],c,i+1,u,xs,by rw[hRES,if_pos ho],by omega,by simp,hp1,hE.carry hf1,hS.carry hE.lr hf1,hf1.x hE.hB⟩
 ·rintro g w1 ⟨l,c1,j,u1,xs1,hr1,hg,hlj,hp1,hE1,hS1,hf1⟩
  obtain ⟨g',rfl⟩:∃g',g=g'+1:=⟨g-1,by have:=hp1.lt;omega⟩
  refine (U7 hp1 hE1 hS1 hlj hR hk).mono ?_
  rintro e w2 h2
  rcases h2.cases with ⟨f,hr2,ht⟩|⟨o,v,hr2,rfl,hv,hf2⟩
  ·refine .inr (.inr ?_)
   obtain ⟨q,rfl,hq⟩:=ht
   refine ⟨_,rfl,?_⟩
   rw[hr1,Mm hr2.out]
   exact iN.up ⟨q,rfl,hq⟩ hf1
  ·cases o with
   | none=>
    obtain ⟨rfl,hp2,u2,xs2,hE2,hS2⟩:=hv
    exact .inr (.inl ⟨rfl,l,c1,j,u2,xs2,by rw[hr1,Hp hr2.out],hp2,hE2,hS2,hf1.trans hf2⟩)
   | some x=>
    obtain ⟨l2,c2,j2⟩:=x
    obtain ⟨rfl,hlt,hl2,hp2,u2,xs2,hE2,hS2⟩:=hv
    exact .inl ⟨rfl,g',by omega,l2,c2,j2,u2,xs2,by rw[hr1,Ho hr2.out],by omega,hl2,hp2,hE2,hS2,hf1.trans hf2⟩
 ·rintro w2 ⟨l,c1,j,u1,xs1,hr1,hp1,hE1,hS1,hf1⟩
  refine ⟨j,c1,hp1,fun hn e w3 ht=>?_,fun ho w3 hp3 hf3=>?_⟩
  ·rw[hr1,if_neg hn]
   exact ht.x hf1 (Nat.le_trans hE.hB hf1.size) (by simp)
  ·rw[hr1,if_pos ho]
   exact ⟨_,rfl,⟨rfl,hp3,u1,xs1,hE1.carry hf3,hS1.carry hE.lr hf3⟩,hf1.trans (hf3.x (Nat.le_trans hE.hB hf1.size))⟩
theorem T9 {C:dT}:Region C 0:=by
 intro w i c ins hk h
 obtain ⟨hp0,hf0⟩:=h.alloc (.cells #[.pointer (some ⟨C.rb,0,none⟩)] 204)
 have x1:(w.alloc (.cells #[.pointer (some ⟨C.rb,0,none⟩)] 204)).cell? ⟨w.heap.size,0,none⟩=some (.pointer (some ⟨C.rb,0,none⟩)):=by simp
 obtain ⟨-,-,-,c3,-⟩:=hp0.cells
 go_enter Tryz.func141,Tryz.ntmps141
 go_wp2_with fail
 generalize (w.alloc (.cells #[.pointer (some ⟨C.rb,0,none⟩)] 204))=W0 at hp0 hf0 x1 c3 ⊢
 have hdr:=(Fr.refl W0.heap.size [] W0).drew
 have hpd:=hp0.same hdr
 go_still_tail 5,(by kernel_rfl)
 go_wp2_with (go_at_call 138;refine (qC hpd ins 6 (by omega)).mono ?_;rintro e w2 ⟨q,rfl,hq⟩;exact ⟨rfl,by (show aP C w (4,pl C.L i) _ _);exact aP.up (hf0.drew) ⟨q,rfl,hq⟩⟩)
theorem U0 {C:dT}{k:Nat}(hR:Region C k):Region C (k+1):=by
 intro w i c ins hk h
 have hC:=h.lts.1
 obtain ⟨hp0,hf0⟩:=h.alloc (.cells #[.pointer (some ⟨C.rb,0,none⟩)] 204)
 have x1:(w.alloc (.cells #[.pointer (some ⟨C.rb,0,none⟩)] 204)).cell? ⟨w.heap.size,0,none⟩=some (.pointer (some ⟨C.rb,0,none⟩)):=by simp
 obtain ⟨-,-,-,c3,-⟩:=hp0.cells
 have hmf:∀(fn:Fn) (first cap:Array Value) (w:World),(Instr.makeFunc fn first cap).run Tryz.prog w=.ok (.func fn first cap) w:=fun _ _ _ _=>rfl
 have hz0:(w.alloc (.cells #[.pointer (some ⟨C.rb,0,none⟩)] 204)).heap.size=w.heap.size+1:=by simp
 have HSP:Hid (aU C.L (k+1) c i=if tx C.L i=eT then states C.L (St k) (aU C.L k) C.L.length [] c (i+1) else .error (3,pl C.L i)):=rfl
 go_enter Tryz.func141,Tryz.ntmps141
 go_wp2_with fail
 generalize (w.alloc (.cells #[.pointer (some ⟨C.rb,0,none⟩)] 204))=W0 at hp0 hf0 x1 c3 hz0 ⊢
 have hdr:=(Fr.refl W0.heap.size [] W0).drew
 have hpd:=hp0.same hdr
 go_still_tail 5,(by kernel_rfl)
 go_wp2_with (go_at_call 138;refine (jS (C:=C) ins 6 (by omega)).mono ?_;rintro e w2 ⟨rfl,hw2⟩;have hp2:PS C w2 i c ins 0:=(by rw[hw2];exact hpd);have hf2:Fr W0.heap.size [] W0 w2:=(by rw[hw2];exact hdr);clear hw2;have y1:w2.cell? ⟨w.heap.size,0,none⟩=some (.pointer (some ⟨C.rb,0,none⟩)):=(by rw[hf2.cell (p:=⟨w.heap.size,0,none⟩) (by show w.heap.size<_;omega) (by simp)];exact x1);obtain ⟨-,-,-,d3,-⟩:=hp2.cells;have z3:=hp2.frozen 3;have hz2:=hf2.size;obtain ⟨hp3,hf3⟩:=hp2.into;obtain ⟨hp4,hf4⟩:=hp3.alloc (.cells #[.slice none 0 0] 210);have hz3:(w2.setCell ⟨C.rb,3,none⟩ (.int .i64 ((ins:Int)+1))).heap.size=w2.heap.size:=(by simp[World.setCell]);have hF4:Fr w.heap.size [C.rb] w ((w2.setCell ⟨C.rb,3,none⟩ (.int .i64 ((ins:Int)+1))).alloc (.cells #[.slice none 0 0] 210)):=((hf0.up hf2.wide).up hf3).up hf4;have y4:((w2.setCell ⟨C.rb,3,none⟩ (.int .i64 ((ins:Int)+1))).alloc (.cells #[.slice none 0 0] 210)).cell? ⟨w.heap.size,0,none⟩=some (.pointer (some ⟨C.rb,0,none⟩)):=(by rw[hf4.cell (p:=⟨w.heap.size,0,none⟩) (by show w.heap.size<_;omega) (by simp;omega),hf3.cell (p:=⟨w.heap.size,0,none⟩) (by show w.heap.size<_;omega) (by simp;omega)];exact y1);have hb4:((w2.setCell ⟨C.rb,3,none⟩ (.int .i64 ((ins:Int)+1))).alloc (.cells #[.slice none 0 0] 210)).heap[w2.heap.size]?=some (.cells #[.slice none 0 0] 210 (0,0)):=(by rw[<-hz3];exact heap_alloc_new _ _);have hE4:RE C (w2.heap.size+1) w.heap.size w2.heap.size ((w2.setCell ⟨C.rb,3,none⟩ (.int .i64 ((ins:Int)+1))).alloc (.cells #[.slice none 0 0] 210)) (.slice none 0 0):=⟨y4,hb4,by omega,by omega,hC,by omega,by omega,by omega,aB hb4⟩;have hS4:oJ k (w2.heap.size+1) ((w2.setCell ⟨C.rb,3,none⟩ (.int .i64 ((ins:Int)+1))).alloc (.cells #[.slice none 0 0] 210)) [] (.slice none 0 0) []:=⟨World.ownsRow_nil _ _ _ _,rfl⟩;have hbr:=J2 hp4 hE4 hS4 hR (by omega);have hz4:=hF4.size;have HTH:Hid (∀f e w5,iN (w2.heap.size+1) [C.rb,w2.heap.size] ((w2.setCell ⟨C.rb,3,none⟩ (.int .i64 ((ins:Int)+1))).alloc (.cells #[.slice none 0 0] 210)) f e w5->aP C w f e w5):=(fun f e w5 ⟨q,h1,h2,h3,h4⟩=>⟨q,h1,h2,Nat.le_trans hz4 h3,hF4.trans (h4.mono (by omega) (by intro x hx hlt;simp at hx ⊢;omega))⟩))
 go_wp2_with (first
  | (go_at_call 134;refine hbr.mono ?_;rintro e w5 h5;rcases h5.cases with ⟨f,hr5,q,rfl,hq⟩|⟨⟨l5,c5,j5⟩,v5,hr5,rfl,⟨rfl,hp5,u5,xs5,hE5,hS5⟩,hf5⟩;(· exact ⟨rfl,by rw[HSP.out,hr5.out];exact HTH.out _ _ _ ⟨q,rfl,hq⟩⟩);obtain ⟨ao5,cap5,rfl⟩:=aJ hS5.own;have y5:=hE5.a;obtain ⟨-,-,-,e3,-⟩:=hp5.cells;have ez3:=hp5.frozen 3;obtain ⟨v5c,v5z⟩:=lG hE5.v 0 _ rfl;have hne5:¬C.rb=w2.heap.size:=(by omega);have hne6:¬w2.heap.size=C.rb:=(by omega)))
 go_ret
 rw[HSP.out,hr5.out]
 obtain ⟨hp6,hf6⟩:=hp5.outOf
 have hF5:Fr w.heap.size [C.rb] w w5:=hF4.trans (hf5.mono (by omega) (by intro x hx hlt;simp at hx ⊢;omega))
 have hl5:=hp5.lts.1
 have kq:aX (Ge (w2.heap.size+1)) (Ge w.heap.size) w5 (w5.setCell ⟨C.rb,3,none⟩ (.int .i64 (ins:Int))):=fun b hb _=>⟨by simp[Ge] at *;omega,Below.heap_setCell _ _ _ _ (by simp[Ge] at *;omega)⟩
 exact ⟨_,rfl,⟨aL.carry kq (k+1) _ _ hS5.done,hp6⟩,hF5.up hf6⟩
theorem Bz {C:dT}:∀k,Region C k:=by
 intro k
 induction k with
 | zero=>exact T9
 | succ k ih=>exact U0 ih
end
end Go.Proofs.YtcdbhoknhnimcaaGreatDoor
