import Derived.Test.YtpogmfliojcnjaaGreatDoorSUg4
import Derived.Test.YtpogmfliojcnjaaGreatDoorSLaidU
import Derived.Test.YtpogmfliojcnjaaGreatDoorSUn
import Derived.Test.YtpogmfliojcnjaaGreatDoorSKo
namespace Go.Proofs.YtpogmfliojcnjaaGreatDoor
section
open Go.RowKit Px
namespace Px
theorem gd_of:∀{k:Nat}{l:List (St k)},OrdAll k l->LayR k l->GdK k l
 | 0,_,_,_=>trivial
 | k+1,l,ho,hl=>by
  obtain ⟨⟨o,h1,_,_⟩,h2⟩:=ho
  obtain ⟨l1,_,l3,_,l5⟩:=hl
  obtain ⟨fi,f1,f2⟩:=fst_some l1
  exact ⟨fun s hs r hr=>gd_of (h2 s hs r hr) ((l5 s hs).2.2.2.2 r hr),⟨fi,f1,f2⟩,l3,⟨o,h1⟩⟩
theorem layD_sh1 {k:Nat}(ih:∀l:List (St k),ShK k l (layD k l)) (l:List (StF (St k))):ShF (ShK k) l ⟨none,none,l.map fun s=>⟨s.ways.map fun _=>0,s.regions.map (layD k)⟩⟩:=by
 refine ⟨List.length_map _,fun i h=>absurd h (by simp),fun i h=>absurd h (by simp),fun i s x hs hx=>?_⟩
 have hx':(l.map fun s:StF (St k)=>(⟨s.ways.map fun _=>(0:Int),s.regions.map (layD k)⟩:SdF (Rd k)))[i]?=some x:=hx
 rw[List.getElem?_map,hs] at hx'
 injection hx' with hx'
 subst hx'
 refine ⟨List.length_map _,fun j r y hr hy=>?_⟩
 have hy':(s.regions.map (layD k))[j]?=some y:=hy
 rw[List.getElem?_map,hr] at hy'
 injection hy' with hy'
 subst hy'
 exact ih r
theorem layD_sh:∀(k:Nat) (l:List (St k)),ShK k l (layD k l)
 | 0,_=>trivial
 | k+1,l=>layD_sh1 (layD_sh k) l
def StandR (L:List (St 6)) (d:Rd 6):Prop:=ShK 6 L d/\((show RdF (Rd 5) from d).there=none\/LvK 6 L d)
def StandC (c:Chart) (r:Rn):Prop:=r.ds.length=c.regions.length/\∀(j:Nat) (L:List (St 6)) (d:Rd 6),c.regions[j]?=some L->r.ds[j]?=some d->StandR L d
theorem new_stands (c:Chart):StandC c (newC c):=by
 refine ⟨List.length_map _,fun j L d hj hd=>?_⟩
 have hd':(c.regions.map (layD 6))[j]?=some d:=hd
 rw[List.getElem?_map,hj] at hd'
 injection hd' with hd'
 subst hd'
 exact ⟨layD_sh 6 L,.inl rfl⟩
theorem tickG_ok (was:Px.Env) (L:List (St 6)) (n:Px.Env) (d:Rd 6) (hG:GdK 6 L) (h:StandR L d):∃p,tickG was L n d=some p/\LvK 6 L p.2:=by
 unfold tickG
 split
 ·exact (opsK_ok 6).enter was false L n d hG h.1
 ·rename_i ht
  exact (opsK_ok 6).go was L n d hG (h.2.resolve_left ht)
theorem tick_ok {c:Chart}(hG:∀r∈c.regions,GdK 6 r) {r:Rn}(h:StandC c r) (ins:List Int):∃r',tickC c ins r=some r'/\StandC c r'/\∀(j:Nat) (L:List (St 6)) (d:Rd 6),c.regions[j]?=some L->r'.ds[j]?=some d->LvK 6 L d:=by
 obtain ⟨p,hp,p1,p2⟩:=allI_all (f:=tickG r.was) (G:=GdK 6) (P:=StandR) (P':=LvK 6) (fun L n d hG h=>tickG_ok r.was L n d hG h) hG (hearE c.vars ins r.now) h.1 h.2
 refine ⟨⟨p.1,p.1,p.2⟩,?_,⟨p1,fun j L d hj hd=>⟨(opsK_ok 6).ij L d (p2 j L d hj hd),.inr (p2 j L d hj hd)⟩⟩,p2⟩
 unfold tickC
 rw[hp]
theorem check_gd {c:Chart}(h:checkC c=none) (hN:NmChart c):∀r∈c.regions,GdK 6 r:=fun r hr=>gd_of (check_all h r hr) ((check_lay h hN).1 r hr)
end Px
end
section
open Go.RowKit Px
namespace Kx
theorem nbE {e:E}(h:Sh.TE e):NbOk e:=by
 induction e with
 | nil=>trivial
 | node b o a l r ihl ihr=>
  obtain ⟨h1,h2,h3,h4,_,h5,h6⟩:=h
  exact ⟨h3,ihl h5,ihr h6⟩
theorem nbS {l:List Asg}(h:Sh.TS l):NbSets l:=fun a ha=>nbE (h a ha).1
theorem nbSt:∀(k:Nat) (x:St k),Sh.TSt k x->NbSt k x:=by
 intro k
 induction k with
 | zero=>intro x _;trivial
 | succ k ih=>
  intro x h
  obtain ⟨h0,h1,h2,h3,h4,h5,h6⟩:=h
  exact ⟨⟨nbS h1,nbS h2,nbS h3,nbE h4,fun y hy=>⟨nbE (h5 y hy).2.2.1,nbS (h5 y hy).2.2.2.1⟩⟩,fun r hr y hy=>ih y (h6 r hr y hy)⟩
theorem nbChart {L:List Lx.Tok}(hL:Wf L) {c:Chart}(h:chart L=.ok c):(∀r∈c.regions,∀x∈r,NbSt 6 x)/\∀v∈c.vars,N64 v.first:=by
 obtain ⟨h1,h2,h3⟩:=Sh.chart_w hL h
 exact ⟨fun r hr x hx=>nbSt 6 x (h2 r hr x hx),fun v hv=>⟨(h1 v hv).1.2.2.1,(h1 v hv).1.2.2.2⟩⟩
structure RunC (c:Chart):Prop where
 ok:checkC c=none
 nm:NmChart c
 run:ChartR c
 n64:∀v∈c.vars,N64 v.first
theorem runC {s:ByteArray}{l:List Lx.Tok}{c:Chart}(hok:Lx.Ok (bs s) l) (hch:chart (fin s l)=.ok c) (h:checkC c=none):RunC c:=
 ⟨h,nmChart (wf_ok hok) hch,check_runs h (nmChart (wf_ok hok) hch) (nbChart (wf_ok hok) hch).1,(nbChart (wf_ok hok) hch).2⟩
end Kx
end
section
open Go.RowKit Px
def IStrs (w:World) (v:Value) (zs:List Str):Prop:=
 ∃ad b off cap,v=.slice ad zs.length cap/\zs.length≤cap/\cap≤maxLen/\(0<zs.length->ad=some ⟨b,off,none⟩)/\∀k s,zs[k]?=some s->w.cell? ⟨b,off+k,none⟩=some (sv s)
theorem RowS.strs {B:Nat}{w:World}{v:Value}{zs:List Str}(h:RowS B w v zs):IStrs w v zs:=by
 have hc:=fun g hg=>World.ownsRow.cells h (g:=g) hg
 obtain ⟨hl,h2⟩:=h
 rcases h2 with ⟨rfl,h0⟩|⟨g,cap,cur,rfl,hB,hg,h3,h4,hr⟩
 ·exact ⟨none,0,0,0,by rw[h0],by omega,by unfold maxLen;omega,fun h=>absurd h (by omega),fun k s hk=>by have:=(List.getElem?_eq_some_iff.1 hk).1;omega⟩
 ·refine ⟨some ⟨g,0,none⟩,g,0,cap,rfl,by omega,by omega,fun _=>rfl,fun k s hk=>?_⟩
  have:=hc g rfl k (sv s) (by rw[List.getElem?_map,hk];rfl)
  rw[show (⟨g,0,none⟩:Addr).add k=⟨g,k,none⟩ from by unfold Addr.add;split<;>simp_all] at this
  rw[Nat.zero_add];exact this
end
section
open Go.RowKit Px
namespace Kx
def lexF:Nat->List UInt8->Nat->Option (List Lx.Tok)
 | 0,_,_=>none
 | f+1,u,p=>
  if (u.drop (Lx.sk false u)).isEmpty then some []
  else if (Lx.rd (u.drop (Lx.sk false u))).1=0\/((Lx.rd (u.drop (Lx.sk false u))).1=2/\18<(Lx.rd (u.drop (Lx.sk false u))).2) then none
  else match lexF f ((u.drop (Lx.sk false u)).drop (Lx.rd (u.drop (Lx.sk false u))).2) (p+Lx.sk false u+(Lx.rd (u.drop (Lx.sk false u))).2) with
   | none=>none
   | some l=>some (⟨(Lx.rd (u.drop (Lx.sk false u))).1,(u.drop (Lx.sk false u)).take (Lx.rd (u.drop (Lx.sk false u))).2,p+Lx.sk false u⟩::l)
theorem lexF_ok:∀(f:Nat) (u:List UInt8) (p:Nat) (l:List Lx.Tok),lexF f u p=some l->∃u' p',Lx.Reads u p l u' p'/\u'.drop (Lx.sk false u')=[]:=by
 intro f
 induction f with
 | zero=>intro u p l h;exact absurd h (by simp[lexF])
 | succ f ih=>
  intro u p l h
  rw[lexF] at h
  split at h
  ·rename_i he
   injection h with h
   subst h
   exact ⟨u,p,Lx.Reads_nil _ _,by simpa using he⟩
  ·rename_i he
   split at h
   ·exact absurd h (by simp)
   ·rename_i hk
    split at h
    ·exact absurd h (by simp)
    ·rename_i l' hl
     injection h with h
     subst h
     obtain ⟨u',p',h1,h2⟩:=ih _ _ _ hl
     exact ⟨u',p',⟨fun e=>he (by rw[e];rfl),rfl,fun e=>hk (.inl e),fun e=>hk (.inr e),h1⟩,h2⟩
def smallL:List UInt8:=[99,104,97,114,116,32,99,32,123,32,105,110,112,117,116,32,97,59,32,111,117,116,112,117,116,32,98,32,58,61,32,50,59,32,114,101,103,105,111,110,32,123,32,105,110,105,116,105,97,108,32,115,116,97,116,101,32,115,32,123,32,103,111,32,105,102,32,40,97,41,32,100,111,32,98,32,58,61,32,98,32,43,32,40,49,32,42,32,97,41,32,45,45,62,32,116,59,32,125,32,115,116,97,116,101,32,116,32,123,32,103,111,32,45,45,62,32,115,59,32,125,32,125,32,125]
def smallK:List Lx.Tok:=[⟨1,[99,104,97,114,116],0⟩,⟨1,[99],6⟩,⟨3,[123],8⟩,⟨1,[105,110,112,117,116],10⟩,⟨1,[97],16⟩,⟨3,[59],17⟩,⟨1,[111,117,116,112,117,116],19⟩,⟨1,[98],26⟩,⟨3,[58,61],28⟩,⟨2,[50],31⟩,⟨3,[59],32⟩,⟨1,[114,101,103,105,111,110],34⟩,⟨3,[123],41⟩,⟨1,[105,110,105,116,105,97,108],43⟩,⟨1,[115,116,97,116,101],51⟩,⟨1,[115],57⟩,⟨3,[123],59⟩,⟨1,[103,111],61⟩,⟨1,[105,102],64⟩,⟨3,[40],67⟩,⟨1,[97],68⟩,⟨3,[41],69⟩,⟨1,[100,111],71⟩,⟨1,[98],74⟩,⟨3,[58,61],76⟩,⟨1,[98],79⟩,⟨3,[43],81⟩,⟨3,[40],83⟩,⟨2,[49],84⟩,⟨3,[42],86⟩,⟨1,[97],88⟩,⟨3,[41],89⟩,⟨3,[45,45,62],91⟩,⟨1,[116],95⟩,⟨3,[59],96⟩,⟨3,[125],98⟩,⟨1,[115,116,97,116,101],100⟩,⟨1,[116],106⟩,⟨3,[123],108⟩,⟨1,[103,111],110⟩,⟨3,[45,45,62],113⟩,⟨1,[115],117⟩,⟨3,[59],118⟩,⟨3,[125],120⟩,⟨3,[125],122⟩,⟨3,[125],124⟩]
def smallC:Chart:=⟨[99],[⟨1,[97],0⟩,⟨2,[98],2⟩],[[(⟨[115],true,false,[],[],[],.nil,[⟨0,false,eName 2 [97],1,[⟨[98],eTwo 6 (eName 2 [98]) (eTwo 8 (eNum 1) (eName 2 [97]))⟩],[116],false⟩],[]⟩:StF (St 5)),(⟨[116],false,false,[],[],[],.nil,[⟨0,false,.nil,1,[],[115],false⟩],[]⟩:StF (St 5))]]⟩
set_option maxRecDepth 100000 in
theorem small_lex:lexF 60 smallL 0=some smallK:=by kernel_rfl
set_option maxRecDepth 100000 in
theorem small_chart (n:Nat):chart (smallK++[⟨4,[],n⟩])=.ok smallC:=by kernel_rfl
theorem small_ok {s:ByteArray}(h:bs s=smallL):Lx.Ok (bs s) smallK/\chart (fin s smallK)=.ok smallC:=by
 refine ⟨⟨by decide,?_⟩,small_chart _⟩
 rw[h]
 exact lexF_ok _ _ _ _ small_lex
set_option maxRecDepth 100000 in
theorem small_check:checkC smallC=none:=by kernel_rfl
end Kx
end
section
open Go.RowKit Px
namespace Kx
theorem put3 {X:World}{fb T:Nat}{x y z:Value}(h:X.heap[fb]?=some (.cells #[x,y,z] T (0,0))) (a b c:Value):(((X.setCell ⟨fb,0,none⟩ a).setCell ⟨fb,1,none⟩ b).setCell ⟨fb,2,none⟩ c).heap[fb]?=some (.cells #[a,b,c] T (0,0)):=
 ck_set (l:=[a,b,z]) (ck_set (l:=[a,y,z]) (ck_set (l:=[x,y,z]) h 0 a) 1 b) 2 c
theorem below_put3 {w X:World}{fb:Nat}(h:Below w.heap.size w X) (hb:w.heap.size≤fb) (a b c:Value):Below w.heap.size w (((X.setCell ⟨fb,0,none⟩ a).setCell ⟨fb,1,none⟩ b).setCell ⟨fb,2,none⟩ c):=
 ((h.setCell hb _).setCell hb _).setCell hb _
set_option maxRecDepth 100000 in
set_option maxHeartbeats 4000000 in
theorem chart_drawn {s:ByteArray}{l:List Lx.Tok}{c:Chart}{w:World}(hs:s.size≤1500) (hv:KEnv0 w) (hok:Lx.Ok (bs s) l) (hch:chart (fin s l)=.ok c) :
    Calls Tryz.prog 8 #[.string s] w fun e w'=>(checkC c=none/\∃S a n m a' n' m',e=.returned (.tuple #[.agg #[.string S,.slice a n m,.slice a' n' m'],.bool true])/\Hid (IsChart (fun b=>w.heap.size<b) w' c (.agg #[.string S,.slice a n m,.slice a' n' m'])/\Below w.heap.size w w')) \/
     (checkC c≠none/\e=.returned (.tuple #[.agg #[.string ⟨#[]⟩,.slice none 0 0,.slice none 0 0],.bool false])/\Hid (Below w.heap.size w w')):=by
 have hN:=nmChart (wf_ok hok) hch
 obtain ⟨W0,hW0⟩:∃W0,W0=w.alloc (.cells #[.string ⟨#[]⟩,.slice none 0 0,.slice none 0 0] 28):=⟨_,rfl⟩
 have hb0:Below w.heap.size w W0:=by rw[hW0];exact ck_grown w _
 have hp:Calls Tryz.prog 28 #[.string s] W0 fun e w'=>∃S a n m a' n' m',e=.returned (.tuple #[.agg #[.string S,.slice a n m,.slice a' n' m'],.nilIface])/\Hid (IsChart (fun b=>w.heap.size<b) w' c (.agg #[.string S,.slice a n m,.slice a' n' m'])/\Below W0.heap.size W0 w'):=
  (parse_ok s l c W0 (by omega) (hv.up hb0).big (hv.up hb0).tabs (hv.up hb0).marks hok hch).mono fun e w' ⟨v,he,hC,hb⟩=>by
   obtain ⟨a,n,m,a',n',m',rfl,h1,h2⟩:=hC
   have kp:Keep (Ge W0.heap.size) (fun b=>w.heap.size<b) w' w':=fun b hb' _=>⟨by have h3:W0.heap.size≤b:=hb';rw[hW0] at h3;simp at h3;omega,rfl⟩
   exact ⟨_,a,n,m,a',n',m',he,⟨a,n,m,a',n',m',rfl,h1.carry kp,h2.carry kp (IsStates.carry kp 6)⟩,hb⟩
 have HB0:Hid (Below w.heap.size w W0/\W0.heap[w.heap.size]?=some (.cells #[.string ⟨#[]⟩,.slice none 0 0,.slice none 0 0] 28 (0,0))):=⟨hb0,by rw[hW0];exact ck_new _ _⟩
 have hs1:¬(1500:Int)<(s.size:Int):=by omega
 have HN:Hid (NmChart c):=hN
 rw[hW0] at hp HB0
 clear hN hv hok hch hW0 hb0
 go_enter Tryz.func8,Tryz.ntmps8
 go_wp2_with fail
 refine hp.mono ?_
 rintro e w1 ⟨S,a,n,m,a',n',m',rfl,h1⟩
 obtain ⟨W1,hW1⟩:∃W1,W1=w1.alloc (.cells #[.string S,.slice a n m,.slice a' n' m'] 28):=⟨_,rfl⟩
 have hb1:Below w1.heap.size w1 W1:=by rw[hW1];exact ck_grown w1 _
 have HW1:Hid (IsChart (fun b=>w.heap.size<b) W1 c (.agg #[.string S,.slice a n m,.slice a' n' m'])/\Below w.heap.size w W1/\W1.heap[w.heap.size]?=some (.cells #[.string ⟨#[]⟩,.slice none 0 0,.slice none 0 0] 28 (0,0))/\W1.heap[w1.heap.size]?=some (.cells #[.string S,.slice a n m,.slice a' n' m'] 28 (0,0))):=
  ⟨chartUp h1.out.1 hb1,ck_all HB0.out.1 (ck_all h1.out.2 hb1),ck_block (ck_all h1.out.2 hb1) HB0.out.2,by rw[hW1];exact ck_new _ _⟩
 have hck:=check_any HW1.out.1 HN.out
 have x0:=cell_row HW1.out.2.2.2 0 (u:=.string S) rfl
 have x1:=cell_row HW1.out.2.2.2 1 (u:=.slice a n m) rfl
 have x2:=cell_row HW1.out.2.2.2 2 (u:=.slice a' n' m') rfl
 obtain ⟨o,ho⟩:∃o,Hid (checkC c=o):=⟨_,rfl⟩
 rw[ho.out] at hck
 rw[hW1] at hck x0 x1 x2
 have HWE:Hid (W1=_):=hW1
 clear hp hb1 hW1 h1
 unfold ChkOut at hck
 have HKW:Hid (∀w',Below W1.heap.size W1 w'->IsChart (fun b=>w.heap.size<b) w' c (.agg #[.string S,.slice a n m,.slice a' n' m'])/\Below w.heap.size w w'/\w'.heap[w.heap.size]?=some (.cells #[.string ⟨#[]⟩,.slice none 0 0,.slice none 0 0] 28 (0,0))/\w'.heap[w1.heap.size]?=some (.cells #[.string S,.slice a n m,.slice a' n' m'] 28 (0,0))):=fun w' hb=>⟨chartUp HW1.out.1 hb,ck_all HW1.out.2.1 hb,ck_block hb HW1.out.2.2.1,ck_block hb HW1.out.2.2.2⟩
 go_wp2_with fail
 cases o with
 | none=>
  have hc2:Calls Tryz.prog 31 #[.agg #[.string S,.slice a n m,.slice a' n' m']] (w1.alloc (.cells #[.string S,.slice a n m,.slice a' n' m'] 28)) fun e w'=>e=.returned .nilIface/\Hid (Below W1.heap.size W1 w'):=by
   rw[<-HWE.out] at hck ⊢
   exact hck.mono fun e w' ⟨hb,ho⟩=>by
    rcases ho with ⟨_,he⟩|⟨_,he,_⟩|⟨_,_,_,he,_⟩
    ·exact ⟨he,hb⟩
    ·simp at he
    ·simp at he
  clear hck x0 x1 x2
  refine hc2.mono ?_
  rintro e w2 ⟨rfl,hb2⟩
  obtain ⟨k1,k2,k3,k4⟩:=HKW.out w2 hb2.out
  have x0:=cell_row k4 0 (u:=.string S) rfl
  have x1:=cell_row k4 1 (u:=.slice a n m) rfl
  have x2:=cell_row k4 2 (u:=.slice a' n' m') rfl
  have f0:=cell_row k3 0 (u:=.string ⟨#[]⟩) rfl
  have f1:=cell_row k3 1 (u:=.slice none 0 0) rfl
  have f2:=cell_row k3 2 (u:=.slice none 0 0) rfl
  have z0:=ck_frozen k3 0
  have z1:=ck_frozen k3 1
  have z2:=ck_frozen k3 2
  have HB2:Hid (Below w.heap.size w w2/\w2.heap[w.heap.size]?=some (.cells #[.string ⟨#[]⟩,.slice none 0 0,.slice none 0 0] 28 (0,0))/\IsChart (fun b=>w.heap.size<b) w2 c (.agg #[.string S,.slice a n m,.slice a' n' m'])):=⟨k2,k3,k1⟩
  clear k1 k2 k3 k4 hc2
  go_wp2_with fail
  refine bodyPost_ret (resultsQ _ _ w.heap.size #[.string S,.slice a n m,.slice a' n' m'] rfl rfl (put3 HB2.out.2.1 _ _ _)) rfl ?_
  refine .inl ⟨ho.out,S,a,n,m,a',n',m',rfl,?_,below_put3 HB2.out.1 (Nat.le_refl _) _ _ _⟩
  obtain ⟨a2,n2,m2,a3,n3,m3,e,q1,q2⟩:=HB2.out.2.2
  have kp:Keep (fun b=>w.heap.size<b) (fun b=>w.heap.size<b) w2 (((w2.setCell ⟨w.heap.size,0,none⟩ (.string S)).setCell ⟨w.heap.size,1,none⟩ (.slice a n m)).setCell ⟨w.heap.size,2,none⟩ (.slice a' n' m')):=fun b hb' _=>⟨hb',by
   have hne:b≠w.heap.size:=by have:w.heap.size<b:=hb';omega
   rw[Below.heap_setCell _ _ _ _ hne,Below.heap_setCell _ _ _ _ hne,Below.heap_setCell _ _ _ _ hne]⟩
  exact ⟨a2,n2,m2,a3,n3,m3,e,q1.carry kp,q2.carry kp (IsStates.carry kp 6)⟩
 | some x=>
  obtain ⟨cc,pl⟩:=x
  have HNE:Hid (checkC c≠none):=by rw[Hid,ho.out];simp
  cases pl with
  | none=>
   have hc2:Calls Tryz.prog 31 #[.agg #[.string S,.slice a n m,.slice a' n' m']] (w1.alloc (.cells #[.string S,.slice a n m,.slice a' n' m'] 28)) fun e w'=>e=.returned (.iface 47 (.int .i64 ((cc:Nat):Int)))/\Hid (Below W1.heap.size W1 w'):=by
    rw[<-HWE.out] at hck ⊢
    exact hck.mono fun e w' ⟨hb,ho⟩=>by
     rcases ho with ⟨he,_⟩|⟨c',he,h1⟩|⟨_,_,_,he,_⟩
     ·simp at he
     ·simp at he
      subst he
      exact ⟨h1,hb⟩
     ·simp at he
   clear hck x0 x1 x2
   refine hc2.mono ?_
   rintro e w2 ⟨rfl,hb2⟩
   obtain ⟨k1,k2,k3,k4⟩:=HKW.out w2 hb2.out
   have f0:=cell_row k3 0 (u:=.string ⟨#[]⟩) rfl
   have f1:=cell_row k3 1 (u:=.slice none 0 0) rfl
   have f2:=cell_row k3 2 (u:=.slice none 0 0) rfl
   have z0:=ck_frozen k3 0
   have z1:=ck_frozen k3 1
   have z2:=ck_frozen k3 2
   have HB2:Hid (Below w.heap.size w w2/\w2.heap[w.heap.size]?=some (.cells #[.string ⟨#[]⟩,.slice none 0 0,.slice none 0 0] 28 (0,0))):=⟨k2,k3⟩
   clear k1 k2 k3 k4 hc2
   go_wp2_with fail
   refine bodyPost_ret (resultsQ _ _ w.heap.size #[.string ⟨#[]⟩,.slice none 0 0,.slice none 0 0] rfl rfl (put3 HB2.out.2 _ _ _)) rfl ?_
   exact .inr ⟨HNE.out,rfl,below_put3 HB2.out.1 (Nat.le_refl _) _ _ _⟩
  | some p=>
   have hc2:Calls Tryz.prog 31 #[.agg #[.string S,.slice a n m,.slice a' n' m']] (w1.alloc (.cells #[.string S,.slice a n m,.slice a' n' m'] 28)) fun e w'=>∃g,e=.returned (.iface 110 (.pointer (some ⟨g,0,none⟩)))/\Hid (Below W1.heap.size W1 w'):=by
    rw[<-HWE.out] at hck ⊢
    exact hck.mono fun e w' ⟨hb,ho⟩=>by
     rcases ho with ⟨he,_⟩|⟨c',he,h1⟩|⟨c',p',g,he,h1,_⟩
     ·simp at he
     ·simp at he
     ·exact ⟨g,h1,hb⟩
   clear hck x0 x1 x2
   refine hc2.mono ?_
   rintro e w2 ⟨ge,rfl,hb2⟩
   obtain ⟨k1,k2,k3,k4⟩:=HKW.out w2 hb2.out
   have f0:=cell_row k3 0 (u:=.string ⟨#[]⟩) rfl
   have f1:=cell_row k3 1 (u:=.slice none 0 0) rfl
   have f2:=cell_row k3 2 (u:=.slice none 0 0) rfl
   have z0:=ck_frozen k3 0
   have z1:=ck_frozen k3 1
   have z2:=ck_frozen k3 2
   have HB2:Hid (Below w.heap.size w w2/\w2.heap[w.heap.size]?=some (.cells #[.string ⟨#[]⟩,.slice none 0 0,.slice none 0 0] 28 (0,0))):=⟨k2,k3⟩
   clear k1 k2 k3 k4 hc2
   go_wp2_with fail
   refine bodyPost_ret (resultsQ _ _ w.heap.size #[.string ⟨#[]⟩,.slice none 0 0,.slice none 0 0] rfl rfl (put3 HB2.out.2 _ _ _)) rfl ?_
   exact .inr ⟨HNE.out,rfl,below_put3 HB2.out.1 (Nat.le_refl _) _ _ _⟩
set_option maxRecDepth 100000 in
set_option maxHeartbeats 2000000 in
theorem chart_none {s:ByteArray}{w:World}(hv:KEnv0 w) (hno:s.size≤1500->∀l c,¬(Lx.Ok (bs s) l/\chart (fin s l)=.ok c)) :
    Calls Tryz.prog 8 #[.string s] w fun e w'=>e=.returned (.tuple #[.agg #[.string ⟨#[]⟩,.slice none 0 0,.slice none 0 0],.bool false])/\Hid (Below w.heap.size w w'):=by
 have hfz:(w.alloc (.cells #[.string ⟨#[]⟩,.slice none 0 0,.slice none 0 0] 28)).heap[w.heap.size]?=some (.cells #[.string ⟨#[]⟩,.slice none 0 0,.slice none 0 0] 28 (0,0)):=ck_new _ _
 have f0:=cell_row hfz 0 (u:=.string ⟨#[]⟩) rfl
 have f1:=cell_row hfz 1 (u:=.slice none 0 0) rfl
 have f2:=cell_row hfz 2 (u:=.slice none 0 0) rfl
 have z0:=ck_frozen hfz 0
 have z1:=ck_frozen hfz 1
 have z2:=ck_frozen hfz 2
 have HFZ:Hid _:=hfz
 by_cases hs:s.size≤1500
 ·have hs1:¬(1500:Int)<(s.size:Int):=by omega
  have hb0:Below w.heap.size w (w.alloc (.cells #[.string ⟨#[]⟩,.slice none 0 0,.slice none 0 0] 28)):=ck_grown w _
  have hp:Calls Tryz.prog 28 #[.string s] (w.alloc (.cells #[.string ⟨#[]⟩,.slice none 0 0,.slice none 0 0] 28)) fun e w'=>∃g,e=.returned (.tuple #[.agg #[.string ⟨#[]⟩,.slice none 0 0,.slice none 0 0],.iface 110 (.pointer (some ⟨g,0,none⟩))])/\Hid (Below (w.alloc (.cells #[.string ⟨#[]⟩,.slice none 0 0,.slice none 0 0] 28)).heap.size (w.alloc (.cells #[.string ⟨#[]⟩,.slice none 0 0,.slice none 0 0] 28)) w'):=by
   have hv0:=hv.up hb0
   by_cases hl:∃l,Lx.Ok (bs s) l
   ·obtain ⟨l,hok⟩:=hl
    cases hch:chart (fin s l) with
    | ok c=>exact absurd ⟨hok,hch⟩ (hno hs l c)
    | error f=>exact (parse_err s l f _ (by omega) hv0.big hv0.tabs hv0.marks hok hch).mono fun e w' ⟨g,he,_,hb⟩=>⟨g,he,hb⟩
   ·exact (parse_bad s _ (by omega) hv0.marks (fun l h=>hl ⟨l,h⟩)).mono fun e w' ⟨_,_,g,he,_,_,hb⟩=>⟨g,he,hb⟩
  clear hv hno hb0 hfz f0 f1 f2 z0 z1 z2
  go_enter Tryz.func8,Tryz.ntmps8
  go_wp2_with fail
  refine hp.mono ?_
  rintro e w1 ⟨g,rfl,hb1⟩
  have hfy:(w1.alloc (.cells #[.string ⟨#[]⟩,.slice none 0 0,.slice none 0 0] 28)).heap[w.heap.size]?=some (.cells #[.string ⟨#[]⟩,.slice none 0 0,.slice none 0 0] 28 (0,0)):=ck_old (ck_block hb1.out HFZ.out)
  have f0:=cell_row hfy 0 (u:=.string ⟨#[]⟩) rfl
  have f1:=cell_row hfy 1 (u:=.slice none 0 0) rfl
  have f2:=cell_row hfy 2 (u:=.slice none 0 0) rfl
  have z0:=ck_frozen hfy 0
  have z1:=ck_frozen hfy 1
  have z2:=ck_frozen hfy 2
  have HFY:Hid _:=hfy
  clear hfy hp
  go_wp2_with fail
  refine bodyPost_ret (resultsQ _ _ w.heap.size #[.string ⟨#[]⟩,.slice none 0 0,.slice none 0 0] rfl rfl (put3 HFY.out _ _ _)) rfl ?_
  exact ⟨rfl,below_put3 (ck_all (ck_all (ck_grown _ _) hb1.out) (ck_grown _ _)) (Nat.le_refl _) _ _ _⟩
 ·have hs1:(1500:Int)<(s.size:Int):=by omega
  clear hv hno hs hfz
  go_enter Tryz.func8,Tryz.ntmps8
  go_wp2_with fail
  refine bodyPost_ret (resultsQ _ _ w.heap.size #[.string ⟨#[]⟩,.slice none 0 0,.slice none 0 0] rfl rfl HFZ.out) rfl ?_
  exact ⟨rfl,ck_grown _ _⟩
end Kx
end
section
open Go.RowKit Px
namespace Kx
end Kx
end
section
open Go.RowKit Px
theorem flat_len {α β γ:Type}{f:α->β->List γ}{g:α->Nat}(h:∀a b,(f a b).length≤g a):∀(l:List α) (m:List β),(List.zipWith f l m).flatten.length≤sumC g l
 | [],_=>by simp
 | _::_,[]=>by simp
 | a::l,b::m=>by
  rw[List.zipWith_cons_cons,List.flatten_cons,List.length_append,sumC]
  have h1:=h a b
  have h2:=flat_len h l m
  omega
theorem thereF_len {k:Nat}(ih:∀(L:List (St k)) (d:Rd k),(thereK k L d).length≤cRg k L) (L:List (StF (St k))) (d:RdF (Rd k)):(thereF (thereK k) L d).length≤cRg (k+1) L:=by
 unfold thereF
 split
 ·exact Nat.zero_le _
 ·split
  ·rename_i s x hs hx
   have h1:=flat_len (f:=thereK k) (g:=cRg k) ih s.regions x.inside
   have h2:1+cIn (k+1) s≤cRg (k+1) L:=sumC_mem (fun x:St (k+1)=>1+cIn (k+1) x) (List.mem_of_getElem? hs)
   have h3:cIn (k+1) s=sumC (cRg k) s.regions:=rfl
   rw[List.length_cons]
   omega
  ·exact Nat.zero_le _
theorem there_len:∀(k:Nat) (L:List (St k)) (d:Rd k),(thereK k L d).length≤cRg k L
 | 0,_,_=>Nat.zero_le _
 | k+1,L,d=>thereF_len (there_len k) L d
theorem thereC_len {c:Chart}(hN:NmChart c) (r:Rn):(thereC c r).length≤1000000:=by
 unfold thereC
 have:=flat_len (f:=thereK 6) (g:=cRg 6) (there_len 6) c.regions r.ds
 have:=hN.many
 omega
theorem INums.below {w w':World}{v:Value}{zs:List Int}(h:INums w v zs) (hb:Below w.heap.size w w'):INums w' v zs:=by
 obtain ⟨ad,b,off,cap,h1,h2,h3,h4,h5⟩:=h
 exact ⟨ad,b,off,cap,h1,h2,h3,h4,fun k hk=>ck_cell hb (h5 k hk)⟩
theorem below_frq {B:Nat}{Q:Nat->Prop}{a w w':World}(h:Below B a w) (hf:FrQ Q w w') (hQ:∀b,Q b->B≤b) (hs:B≤w.heap.size):Below B a w':=
 ⟨hf.os.trans h.os,hf.tape.trans h.tape,hf.output.trans h.output,Nat.le_trans h.size hf.size,fun b hb=>(hf.block b (Nat.lt_of_lt_of_le hb hs) (fun hq=>absurd (hQ b hq) (by omega))).trans (h.block b hb)⟩
namespace Kx
def IRws (w:World) (v:Value) (zss:List (List Int)):Prop:=
 ∃ad b off cap,v=.slice ad zss.length cap/\(0<zss.length->ad=some ⟨b,off,none⟩)/\∀(k:Nat) (zs:List Int),zss[k]?=some zs->∃a c,w.cell? ⟨b,off+k,none⟩=some (.slice a zs.length c)/\INums w (.slice a zs.length c) zs
theorem ixM (ad:Option Addr) (b off n cap k:Nat) (hk:k<n) (ha:0<n->ad=some ⟨b,off,none⟩) (w:World):(Instr.indexAt 22 (.slice ad n cap) (.int .i64 (k:Int))).run Tryz.prog w=.ok (.pointer (some ⟨b,off+k,none⟩)) w:=by
 obtain rfl:=ha (by omega)
 rw[run_indexAt_slice _ _ _ _ _ _ _ (by kernel_rfl),if_pos ⟨by omega,by omega⟩]
 have e:(sizeOf (Tryz.prog.elem 22)).run Tryz.prog w=.ok 1 w:=by kernel_rfl
 rw[e]
 simp[Result.andThen,Addr.add]
def Few (zss:List (List Int)):Prop:=zss.length≤40/\∀zs∈zss,zs.length≤30
theorem few_big (ad:Option Addr) (n cap:Nat) (w:World) (hn:40<n) :
    Calls Tryz.prog 6 #[.slice ad n cap] w fun e w'=>e=.returned (.bool false)/\w'=w:=by
 go_enter Tryz.func6,Tryz.ntmps6
 go_wp2
 go_ret
 exact ⟨rfl,rfl⟩
set_option maxHeartbeats 1000000 in
theorem few_rows (ad:Option Addr) (n cap b off:Nat) (w:World) (L:Nat->Nat) (hn:n≤40) (ha:0<n->ad=some ⟨b,off,none⟩)
    (hc:∀k,k<n->∃a c,w.cell? ⟨b,off+k,none⟩=some (.slice a (L k) c)) :
    Calls Tryz.prog 6 #[.slice ad n cap] w fun e w'=>(e=.returned (.bool true)/\(∀k,k<n->L k≤30)\/e=.returned (.bool false)/\¬∀k,k<n->L k≤30)/\w'=w:=by
 have HA:Hid (0<n->ad=some ⟨b,off,none⟩):=ha
 have HC:Hid (∀k,k<n->∃a c,w.cell? ⟨b,off+k,none⟩=some (.slice a (L k) c)):=hc
 clear ha hc
 go_enter Tryz.func6,Tryz.ntmps6
 go_wp2
 go_loopw [3] (fun i wr=>∃k:Nat,k≤n/\i=.int .i64 k/\Hid (∀j,j<k->L j≤30)/\wr=w) (fun i _=>n-(intOf i).toNat)
 case atStart=>exact ⟨0,Nat.zero_le _,rfl,fun j hj=>by omega,rfl⟩
 case round=>
  obtain ⟨k,hk,rfl,HL,hw⟩:=hrel
  obtain rfl:=hw
  by_cases hlt:k<n
  ·have hix:=ixM ad b off n cap k hlt HA.out
   obtain ⟨a,c,cx⟩:=HC.out k hlt
   obtain ⟨l,hl⟩:∃l,l=L k:=⟨_,rfl⟩
   rw[<-hl] at cx
   have HLK:Hid (l=L k):=hl
   clear hl
   by_cases h30:l≤30
   ·go_wp2
    go_roundw
    case rel=>exact ⟨k+1,by omega,by go_num,fun j hj=>by
     by_cases e:j=k
     ·subst e;rw[<-HLK.out];exact h30
     ·exact HL.out j (by omega),by first|trivial|rfl⟩
    case measure=>simp[intOf];omega
   ·go_wp2
    go_ret
    exact ⟨.inr ⟨rfl,fun hh=>h30 (by rw[HLK.out];exact hh k hlt)⟩,rfl⟩
  ·obtain rfl:k=n:=by omega
   go_wp2
   go_ret
   exact ⟨.inl ⟨rfl,HL.out⟩,rfl⟩
theorem few_any {w:World}{v:Value}{zss:List (List Int)}(h:IRws w v zss) :
    Calls Tryz.prog 6 #[v] w fun e w'=>(e=.returned (.bool true)/\Few zss\/e=.returned (.bool false)/\¬Few zss)/\w'=w:=by
 obtain ⟨ad,b,off,cap,rfl,h2,h3⟩:=h
 by_cases hn:zss.length≤40
 ·refine (few_rows ad zss.length cap b off w (fun k=>(zss.getD k []).length) hn h2 (fun k hk=>?_)).mono ?_
  ·obtain ⟨a,c,h4,_⟩:=h3 k (zss[k]'hk) (List.getElem?_eq_getElem hk)
   refine ⟨a,c,?_⟩
   rw[h4,List.getD_eq_getElem?_getD,List.getElem?_eq_getElem hk];rfl
  ·have hiff:(∀k,k<zss.length->(zss.getD k []).length≤30)↔∀zs∈zss,zs.length≤30:=by
    constructor
    ·intro hh zs hz
     obtain ⟨k,hk,e⟩:=List.getElem_of_mem hz
     have:=hh k hk
     rw[List.getD_eq_getElem?_getD,List.getElem?_eq_getElem hk,e] at this
     exact this
    ·intro hh k hk
     rw[List.getD_eq_getElem?_getD,List.getElem?_eq_getElem hk]
     exact hh _ (List.getElem_mem hk)
   rintro e w' ⟨⟨he,hh⟩|⟨he,hh⟩,hw⟩
   ·exact ⟨.inl ⟨he,hn,hiff.1 hh⟩,hw⟩
   ·exact ⟨.inr ⟨he,fun hf=>hh (hiff.2 hf.2)⟩,hw⟩
 ·exact (few_big ad zss.length cap w (by omega)).mono fun e w' ⟨he,hw⟩=>⟨.inr ⟨he,fun hf=>hn hf.1⟩,hw⟩
set_option maxHeartbeats 1000000 in
theorem same_nums {va vb:Value}{zs:List Int}{w:World}(ha:INums w va zs) (hb:INums w vb zs) (hl:zs.length≤1000000) :
    Calls Tryz.prog 14 #[va,vb] w fun e w'=>e=.returned (.bool true)/\Hid (Below w.heap.size w w'):=by
 obtain ⟨ad1,b1,o1,c1,rfl,_,_,p1,q1⟩:=ha
 obtain ⟨ad2,b2,o2,c2,rfl,_,_,p2,q2⟩:=hb
 have H1:Hid (0<zs.length->ad1=some ⟨b1,o1,none⟩):=p1
 have H2:Hid (0<zs.length->ad2=some ⟨b2,o2,none⟩):=p2
 have Q1:Hid (∀k,k<zs.length->w.cell? ⟨b1,o1+k,none⟩=some (.int .i64 (zs.getD k 0))):=q1
 have Q2:Hid (∀k,k<zs.length->w.cell? ⟨b2,o2+k,none⟩=some (.int .i64 (zs.getD k 0))):=q2
 clear p1 p2 q1 q2
 go_enter Tryz.func14,Tryz.ntmps14
 go_wp2
 go_loopw [5] (fun i wr=>∃k:Nat,k≤zs.length/\i=.int .i64 k/\Below w.heap.size w wr) (fun i _=>zs.length-(intOf i).toNat)
 case atStart=>exact ⟨0,Nat.zero_le _,rfl,Below.refl _ _⟩
 case round=>
  obtain ⟨k,hk,rfl,hbr⟩:=hrel
  have HB:Hid (Below w.heap.size w wr):=hbr
  clear hbr
  by_cases hlt:k<zs.length
  ·have hi1:=ixN ad1 b1 o1 zs.length c1 k hlt H1.out
   have hi2:=ixN ad2 b2 o2 zs.length c2 k hlt H2.out
   obtain ⟨x,hx⟩:∃x,x=zs.getD k 0:=⟨_,rfl⟩
   have y1:wr.cell? ⟨b1,o1+k,none⟩=some (.int .i64 x):=by rw[hx];exact ck_cell HB.out (Q1.out k hlt)
   have y2:wr.cell? ⟨b2,o2+k,none⟩=some (.int .i64 x):=by rw[hx];exact ck_cell HB.out (Q2.out k hlt)
   clear hx
   go_wp2_with fail
   go_quiet (fail)
   go_wp2_with fail
   go_roundw
   case rel=>exact ⟨k+1,by omega,by go_num,ck_all HB.out ⟨rfl,rfl,rfl,Nat.le_refl _,fun _ _=>rfl⟩⟩
   case measure=>simp[intOf];omega
  ·go_wp2
   go_ret
   exact ⟨rfl,HB.out⟩
set_option maxRecDepth 100000 in
theorem small_one:(tickC smallC [5] (newC smallC)).map (outsC smallC)=some [2]:=by kernel_rfl
set_option maxRecDepth 100000 in
theorem small_two:((tickC smallC [5] (newC smallC)).bind fun r=>(tickC smallC [5] r).map fun r'=>(outsC smallC r',thereC smallC r'))=some ([7],[[116]]):=by kernel_rfl
theorem small_ticks:∃r1 r2,tickC smallC [5] (newC smallC)=some r1/\outsC smallC r1=[2]/\tickC smallC [5] r1=some r2/\outsC smallC r2=[7]/\thereC smallC r2=[[116]]:=by
 have h1:=small_one
 have h2:=small_two
 cases hr:tickC smallC [5] (newC smallC) with
 | none=>rw[hr] at h1;exact absurd h1 (by simp)
 | some r1=>
  rw[hr] at h1 h2
  have h2':(tickC smallC [5] r1).map (fun r'=>(outsC smallC r',thereC smallC r'))=some ([7],[[116]]):=h2
  cases hr2:tickC smallC [5] r1 with
  | none=>rw[hr2] at h2';exact absurd h2' (by simp)
  | some r2=>
   rw[hr2] at h2'
   simp at h1 h2'
   exact ⟨r1,r2,rfl,h1,hr2,h2'.1,h2'.2⟩
end Kx
end
end Go.Proofs.YtpogmfliojcnjaaGreatDoor
