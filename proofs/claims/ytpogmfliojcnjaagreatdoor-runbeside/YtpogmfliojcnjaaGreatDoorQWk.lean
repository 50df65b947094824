import Derived.Test.YtpogmfliojcnjaaGreatDoorQWj
namespace Go.Proofs.YtpogmfliojcnjaaGreatDoor
open Go.RowKit Px
namespace Kx
theorem info64 : (Tryz.prog.info? 2).map (fun i => (i.zero, i.size, i.bytes)) = some (some (.int .i64 0), 1, 8) := by kernel_rfl
structure ThreeI (c d : Chart) (A1 A2 Q1 Q2 Q3 : Nat → Prop) (W9 wr : World) (r e z : Rn) (rb1 rb2 rb3 : Nat) (y1 y2 y3 : RnL) : Prop where
 bes : BesD c d r e z
 st1 : StandC c r
 st2 : StandC d e
 x : RnM A1 wr c r rb1 Q1 y1
 y : RnM A2 wr d e rb2 Q2 y2
 z : RnM (fun x => x < W9.heap.size) wr (besC c d) z rb3 Q3 y3
 bel : Below W9.heap.size W9 wr
theorem own_cut {w : World} {B e size g n m cap : Nat} {xs : List Value} (h : w.ownsRow B e size (.slice (some ⟨g, 0, none⟩) n cap) n xs) (hm : m ≤ n) : w.ownsRow B e size (.slice (some ⟨g, 0, none⟩) m cap) m (xs.take (m * size)) := by
 obtain ⟨h1, h2⟩ := h
 rcases h2 with ⟨h, _⟩ | ⟨g', cap', cur, h, hB, hg, hc, hc2, hs, ht⟩
 ·injection h with h; exact absurd h (by simp)
 ·injection h with ha _ hcc
  injection ha with ha
  injection ha with ha
  subst ha
  subst hcc
  have hl : m * size ≤ n * size := Nat.mul_le_mul_right _ hm
  refine ⟨by rw [List.length_take, h1]; omega, .inr ⟨g, cap, cur, rfl, hB, hg, by omega, hc2, hs, ?_⟩⟩
  rw [← ht, List.take_take]
  congr 1
  omega
theorem own_frq {w w' : World} {Q' : Nat → Prop} {B e size g n m cap : Nat} {xs : List Value} (h : w.ownsRow B e size (.slice (some ⟨g, 0, none⟩) n cap) m xs) (hf : FrQ Q' w w') (hg : ¬ Q' g) : w'.ownsRow B e size (.slice (some ⟨g, 0, none⟩) n cap) m xs :=
 own_keep h fun x hx => by
  have e : g = x := Option.some.inj hx
  rw [← e]
  exact hf.block g (h.lt g rfl).2 hg
structure Mid (c d : Chart) (A1 A2 Q1 Q2 Q3 : Nat → Prop) (W9 U W : World) (r e z : Rn) (rb1 rb2 rb3 : Nat) (y1 y2 y3 : RnL) : Prop where
 x : RnM A1 W c r rb1 Q1 y1
 y : RnM A2 W d e rb2 Q2 y2
 z : RnM (fun x => x < W9.heap.size) W (besC c d) z rb3 Q3 y3
 bel : Below W9.heap.size W9 W
 sz : U.heap.size ≤ W.heap.size
 s9 : W9.heap.size ≤ U.heap.size
 q : (∀ b, Q1 b → b < U.heap.size) ∧ (∀ b, Q2 b → b < U.heap.size) ∧ ∀ b, Q3 b → b < U.heap.size
 a : (∀ b, A1 b → b < W9.heap.size) ∧ ∀ b, A2 b → b < W9.heap.size
 dj : ((∀ b, Q1 b → W9.heap.size ≤ b) ∧ (∀ b, Q2 b → W9.heap.size ≤ b) ∧ ∀ b, Q3 b → W9.heap.size ≤ b) ∧ (∀ b, Q1 b → ¬ Q2 b) ∧ (∀ b, Q1 b → ¬ Q3 b) ∧ ∀ b, Q2 b → ¬ Q3 b
section
variable {c d : Chart} {A1 A2 Q1 Q2 Q3 : Nat → Prop} {W9 U W W' : World} {r e z : Rn} {rb1 rb2 rb3 : Nat} {y1 y2 y3 : RnL}
theorem Mid.other {Q' : Nat → Prop} (h : Mid c d A1 A2 Q1 Q2 Q3 W9 U W r e z rb1 rb2 rb3 y1 y2 y3) (hf : FrQ Q' W W') (hq : ∀ b, Q' b → W9.heap.size ≤ b ∧ ¬ Q1 b ∧ ¬ Q2 b ∧ ¬ Q3 b) : Mid c d A1 A2 Q1 Q2 Q3 W9 U W' r e z rb1 rb2 rb3 y1 y2 y3 :=
 ⟨h.x.apart hf (fun b h1 h2 => (hq b h2).2.1 h1) (fun b h1 h2 => by have := h.a.1 b h1; have := (hq b h2).1; omega),
  h.y.apart hf (fun b h1 h2 => (hq b h2).2.2.1 h1) (fun b h1 h2 => by have := h.a.2 b h1; have := (hq b h2).1; omega),
  h.z.apart hf (fun b h1 h2 => (hq b h2).2.2.2 h1) (fun b h1 h2 => by have h3 : b < W9.heap.size := h1; have := (hq b h2).1; omega),
  below_frq h.bel hf (fun b hb => (hq b hb).1) (Nat.le_trans h.s9 h.sz), Nat.le_trans h.sz hf.size, h.s9, h.q, h.a, h.dj⟩
theorem Mid.grown {g : Nat} (h : Mid c d A1 A2 Q1 Q2 Q3 W9 U W r e z rb1 rb2 rb3 y1 y2 y3) (hg : W.grownBy W' (some g)) (hU : W9.heap.size ≤ g ∧ ¬ Q1 g ∧ ¬ Q2 g ∧ ¬ Q3 g) : Mid c d A1 A2 Q1 Q2 Q3 W9 U W' r e z rb1 rb2 rb3 y1 y2 y3 :=
 h.other (frq_grown hg) (fun b hb => by rw [show b = g from hb]; exact hU)
theorem Mid.new {g : Nat} (h : Mid c d A1 A2 Q1 Q2 Q3 W9 U W r e z rb1 rb2 rb3 y1 y2 y3) (hU : U.heap.size ≤ g) : W9.heap.size ≤ g ∧ ¬ Q1 g ∧ ¬ Q2 g ∧ ¬ Q3 g :=
 ⟨Nat.le_trans h.s9 hU, fun q => by have := h.q.1 g q; omega, fun q => by have := h.q.2.1 g q; omega, fun q => by have := h.q.2.2 g q; omega⟩
theorem Mid.low (h : Mid c d A1 A2 Q1 Q2 Q3 W9 U W r e z rb1 rb2 rb3 y1 y2 y3) (hb : Below W.heap.size W W') : Mid c d A1 A2 Q1 Q2 Q3 W9 U W' r e z rb1 rb2 rb3 y1 y2 y3 :=
 h.other (Q' := fun _ => False) (FrQ.of_below hb) (fun _ h => h.elim)
theorem Mid.tx {r1 : Rn} (h : Mid c d A1 A2 Q1 Q2 Q3 W9 U W r e z rb1 rb2 rb3 y1 y2 y3) (hx : RnM A1 W' c r1 rb1 Q1 y1) (hf : FrQ Q1 W W') : Mid c d A1 A2 Q1 Q2 Q3 W9 U W' r1 e z rb1 rb2 rb3 y1 y2 y3 :=
 ⟨hx, h.y.apart hf (fun b h1 h2 => h.dj.2.1 b h2 h1) (fun b h1 h2 => by have := h.a.2 b h1; have := h.dj.1.1 b h2; omega),
  h.z.apart hf (fun b h1 h2 => h.dj.2.2.1 b h2 h1) (fun b h1 h2 => by have h3 : b < W9.heap.size := h1; have := h.dj.1.1 b h2; omega),
  below_frq h.bel hf h.dj.1.1 (Nat.le_trans h.s9 h.sz), Nat.le_trans h.sz hf.size, h.s9, h.q, h.a, h.dj⟩
theorem Mid.ty {e1 : Rn} (h : Mid c d A1 A2 Q1 Q2 Q3 W9 U W r e z rb1 rb2 rb3 y1 y2 y3) (hy : RnM A2 W' d e1 rb2 Q2 y2) (hf : FrQ Q2 W W') : Mid c d A1 A2 Q1 Q2 Q3 W9 U W' r e1 z rb1 rb2 rb3 y1 y2 y3 :=
 ⟨h.x.apart hf (fun b h1 h2 => h.dj.2.1 b h1 h2) (fun b h1 h2 => by have := h.a.1 b h1; have := h.dj.1.2.1 b h2; omega), hy,
  h.z.apart hf (fun b h1 h2 => h.dj.2.2.2 b h2 h1) (fun b h1 h2 => by have h3 : b < W9.heap.size := h1; have := h.dj.1.2.1 b h2; omega),
  below_frq h.bel hf h.dj.1.2.1 (Nat.le_trans h.s9 h.sz), Nat.le_trans h.sz hf.size, h.s9, h.q, h.a, h.dj⟩
theorem Mid.tz {z1 : Rn} (h : Mid c d A1 A2 Q1 Q2 Q3 W9 U W r e z rb1 rb2 rb3 y1 y2 y3) (hz : RnM (fun x => x < W9.heap.size) W' (besC c d) z1 rb3 Q3 y3) (hf : FrQ Q3 W W') : Mid c d A1 A2 Q1 Q2 Q3 W9 U W' r e z1 rb1 rb2 rb3 y1 y2 y3 :=
 ⟨h.x.apart hf (fun b h1 h2 => h.dj.2.2.1 b h1 h2) (fun b h1 h2 => by have := h.a.1 b h1; have := h.dj.1.2.2 b h2; omega),
  h.y.apart hf (fun b h1 h2 => h.dj.2.2.2 b h1 h2) (fun b h1 h2 => by have := h.a.2 b h1; have := h.dj.1.2.2 b h2; omega), hz,
  below_frq h.bel hf h.dj.1.2.2 (Nat.le_trans h.s9 h.sz), Nat.le_trans h.sz hf.size, h.s9, h.q, h.a, h.dj⟩
end
theorem pad_get (zs ys : List Int) (j nI i : Nat) (hn : nI ≤ zs.length + j) (hi : i < nI) : zs.getD i 0 = ((zs ++ List.replicate j 0).take nI ++ ys).getD i 0 := by
 rw [List.getD_eq_getElem?_getD, List.getD_eq_getElem?_getD, List.getElem?_append_left (by rw [List.length_take, List.length_append, List.length_replicate]; omega), List.getElem?_take, if_pos hi]
 by_cases h : i < zs.length
 ·rw [List.getElem?_append_left h]
 ·rw [List.getElem?_append_right (by omega), List.getElem?_eq_none (by omega), List.getElem?_replicate, if_pos (by omega)]
  rfl
theorem pad_drop (zs ys : List Int) (j nI : Nat) (hn : nI ≤ zs.length + j) : ((zs ++ List.replicate j 0).take nI ++ ys).drop nI = ys :=
 List.drop_left' (by rw [List.length_take, List.length_append, List.length_replicate]; omega)
theorem outs_le (c : Chart) (r : Rn) : (outsC c r).length ≤ c.vars.length := tellC_len _ _ _
theorem rowS_len {B : Nat} {w : World} {a : Option Addr} {n m : Nat} {zs : List Str} (h : RowS B w (.slice a n m) zs) : n = zs.length := by
 obtain ⟨_, h2⟩ := h
 rcases h2 with ⟨h, h0⟩ | ⟨g, cap, cur, h, _⟩
 ·injection h with _ h; rw [h, h0]
 ·injection h with _ h
set_option maxRecDepth 100000 in
set_option maxHeartbeats 16000000 in
theorem beside_fine : BesideL := (show BesideL from by
 refine beside_c.down ⟨?_⟩
 intro K1 K0 s t w Q0 c d zss yss _ _ iad _ _ ic jad _ _ jc N M S a n m a' n' m' cb A1 w3 S' b q b' p' q' W3 db A2 x1 V x2 xx _ iD W5 bb E5 xs g1 cap1 w6 W7 vg cg p W8 iR g cap xv E xc g2 cap2 q2 q3 a3 n3 m3 xd g4 cap4 q4 W9 R9 P9 w10 rb1 Q1 y1 w11 rb2 Q2 y2 w12 rb3 Q3 y3 w13 u8 u15 u16 u79 u80 u81 u82 u83 u84 u85 u86 u87 u88 u89 u90 u91 u92 u93 u94 u95 u96 u97 u98 u99 u100 u101 u102 u103 u104 u105 u106 u107 u108 u109 u110 u111 u112 u113 u114 u115 u116 u117 u118 u119 u120 hN6 hM6 H HN H20 HC HW9 HQ H3 a1 a0
 obtain ⟨iI, hiI, hI0, hI1, hI2⟩ := info_parts info64
 obtain ⟨nI, hnI⟩ : ∃ nI, nI = cntIn c.vars := ⟨_, rfl⟩
 rw [← hnI]
 have hnI6 : nI ≤ 20 := by
  have h1 := cntIn_le c.vars
  have h2 := HN.out.1
  have h3 := H20.out
  omega
 have hv20 : Hid (c.vars.length + d.vars.length ≤ 20) := by
  have h1 := HN.out
  have h3 := H20.out
  have : c.vars.length + d.vars.length ≤ 20 := by omega
  exact this
 have HNI : Hid (nI = cntIn c.vars) := hnI
 have H0 : Hid (∃ r e z, ThreeI c d A1 A2 Q1 Q2 Q3 W9 w13 r e z rb1 rb2 rb3 y1 y2 y3) := ⟨_, _, _, bes_new H.out.1.1.ok H.out.1.2.ok HC.out.1, new_stands c, new_stands d, H3.out.1, H3.out.2.1, H3.out.2.2.1, H3.out.2.2.2⟩
 obtain ⟨ad0, ib, io, cap0, e0, hia, hir⟩ := H.out.2.2.1.1
 obtain ⟨bd0, jb, jo, cbp0, e0', hja, hjr⟩ := H.out.2.2.1.2
 injection e0 with e01 e02 e03
 injection e0' with f01 f02 f03
 subst e01
 subst f01
 have HA : Hid ((0 < N → iad = some ⟨ib, io, none⟩) ∧ (0 < M → jad = some ⟨jb, jo, none⟩) ∧ (∀ (k : Nat) (zs : List Int), zss[k]? = some zs → ∃ a c, w.cell? ⟨ib, io + k, none⟩ = some (.slice a zs.length c) ∧ INums w (.slice a zs.length c) zs) ∧ ∀ (k : Nat) (zs : List Int), yss[k]? = some zs → ∃ a c, w.cell? ⟨jb, jo + k, none⟩ = some (.slice a zs.length c) ∧ INums w (.slice a zs.length c) zs) := ⟨by rw [e02]; exact hia, by rw [f02]; exact hja, hir, hjr⟩
 clear hnI H3 e02 e03 f02 f03 hia hir hja hjr
 go_wp2_with fail
 go_loopg [24] N (fun f iv wr => ∃ k : Nat, f = N - k ∧ k ≤ N ∧ iv = .int .i64 (k : Int) ∧ Hid (∃ r e z, ThreeI c d A1 A2 Q1 Q2 Q3 W9 wr r e z rb1 rb2 rb3 y1 y2 y3))
 case atStart => exact ⟨0, by omega, by omega, rfl, H0.out⟩
 case round =>
  obtain ⟨k, rfl, hk, rfl, hr⟩ := hrel
  obtain ⟨U0, hU0⟩ : ∃ W, W = wr := ⟨_, rfl⟩
  subst hU0
  have HBw : Hid (Below w.heap.size w U0) := by
   obtain ⟨r, e, z, h⟩ := hr.out
   exact ck_all HW9.out.2.1 h.bel
  by_cases hlt : k < N
  ·by_cases hlt2 : k < M
   ·obtain ⟨zs, hzs⟩ : ∃ zs, zss[k]? = some zs := ⟨zss[k]'(by rw [← H.out.2.1.1]; exact hlt), by rw [List.getElem?_eq_getElem]⟩
    obtain ⟨ys, hys⟩ : ∃ ys, yss[k]? = some ys := ⟨yss[k]'(by rw [← H.out.2.1.2]; exact hlt2), by rw [List.getElem?_eq_getElem]⟩
    obtain ⟨ca, cc, hca, hIa⟩ := HA.out.2.2.1 k zs hzs
    obtain ⟨da, dc, hda, hIb⟩ := HA.out.2.2.2 k ys hys
    obtain ⟨L, hL⟩ : ∃ L, L = zs.length := ⟨_, rfl⟩
    obtain ⟨L2, hL2⟩ : ∃ L2, L2 = ys.length := ⟨_, rfl⟩
    rw [← hL] at hca hIa
    rw [← hL2] at hda hIb
    have HL : Hid (L = zs.length ∧ L2 = ys.length) := ⟨hL, hL2⟩
    have hL30 : L ≤ 30 := by rw [hL]; exact H.out.2.2.2.2.1 zs (List.mem_of_getElem? hzs)
    have hL230 : L2 ≤ 30 := by rw [hL2]; exact H.out.2.2.2.2.2 ys (List.mem_of_getElem? hys)
    have HZ : Hid (∀ W, Below W9.heap.size W9 W → (W.cell? ⟨ib, io + k, none⟩ = some (.slice ca L cc) ∧ INums W (.slice ca L cc) zs) ∧ W.cell? ⟨jb, jo + k, none⟩ = some (.slice da L2 dc) ∧ INums W (.slice da L2 dc) ys) := fun W hb => by
     have h := ck_all HW9.out.2.1 hb
     exact ⟨⟨ck_cell h hca, hIa.below h⟩, ck_cell h hda, hIb.below h⟩
    have H64 : Hid ((∀ y ∈ zs, N64 y) ∧ ∀ y ∈ ys, N64 y) := ⟨H.out.2.2.2.1.1 zs (List.mem_of_getElem? hzs), H.out.2.2.2.1.2 ys (List.mem_of_getElem? hys)⟩
    obtain ⟨r, e, z, hT⟩ := hr.out
    obtain ⟨r1, ht1, hst1, _⟩ := tick_ok (check_gd H.out.1.1.ok H.out.1.1.nm) hT.st1 zs
    obtain ⟨e1, ht2, hst2, _⟩ := tick_ok (check_gd H.out.1.2.ok H.out.1.2.nm) hT.st2 ys
    have HT : Hid (ThreeI c d A1 A2 Q1 Q2 Q3 W9 U0 r e z rb1 rb2 rb3 y1 y2 y3 ∧ tickC c zs r = some r1 ∧ tickC d ys e = some e1 ∧ StandC c r1 ∧ StandC d e1) := ⟨hT, ht1, ht2, hst1, hst2⟩
    have hixa := ixM iad ib io N ic k hlt HA.out.1
    have hixb := ixM jad jb jo M jc k hlt2 HA.out.2.1
    have hs9 : W9.heap.size ≤ U0.heap.size := hT.bel.size
    clear hr hT ht1 ht2 hst1 hst2 hzs hys hca hIa hda hIb hL hL2
    obtain ⟨E1, hE1⟩ : ∃ E1, E1 = U0.alloc (.cells #[] 2) := ⟨_, rfl⟩
    have hbE : Below W9.heap.size W9 E1 := by rw [hE1]; exact ck_all HT.out.1.bel (ck_grown _ _)
    have hown : E1.ownsRow U0.heap.size 2 1 (.slice (some ⟨U0.heap.size, 0, none⟩) 0 0) 0 [] := by rw [hE1]; exact row_nil U0 _ _ _ (Nat.le_refl _)
    have hsrc : SrcC E1 1 (.slice ca L cc) L (zs.map (Value.int .i64)) := by
     have h := src_nums (HZ.out E1 hbE).1.2
     rw [← HL.out.1] at h
     exact h
    have hx1 : (U0.alloc (.cells #[] 2)).cell? ⟨ib, io + k, none⟩ = some (.slice ca L cc) := by rw [← hE1]; exact (HZ.out E1 hbE).1.1
    have hEs : U0.heap.size ≤ E1.heap.size := by rw [hE1]; simp
    have HBE : Hid (Below U0.heap.size U0 E1) := by rw [hE1]; exact ck_grown _ _
    clear hbE
    go_upto_region 34 with fail
    go_wp2_with (at_builtin; (try rw [← hE1]); refine wpList_app rfl (.tmp 181) (.tmp 185) 41 rfl U0.heap.size 2 iI _ 1 8 Tryz.underlying41 hiI hI0 hI1 hI2 rfl (by decide) rfl hown rfl hsrc (by unfold maxLen; omega) (by omega) hEs ?_; intro g5 cap5 U1 hown5 hgrow5 hat5; simp only [Nat.zero_add, List.nil_append] at hown5 ⊢)
    have HO5 : Hid (U1.ownsRow U0.heap.size 2 1 (.slice (some ⟨g5, 0, none⟩) L cap5) L (zs.map (Value.int .i64)) ∧ Below U0.heap.size U0 U1) := ⟨hown5, HBE.out.trans (below_grown hgrow5 (Nat.le_refl _) hEs)⟩
    clear hown5 hgrow5 hat5 hx1 hown hsrc hEs HBE hE1
    go_loopg [25] (nI - L) (fun f sv wq => ∃ (j gg cp : Nat), f = nI - (L + j) ∧ sv = .slice (some ⟨gg, 0, none⟩) (L + j) cp ∧ L + j ≤ 50 ∧ Hid (wq.ownsRow U0.heap.size 2 1 (.slice (some ⟨gg, 0, none⟩) (L + j) cp) (L + j) ((zs ++ List.replicate j 0).map (Value.int .i64)) ∧ Below U0.heap.size U0 wq))
    case atStart => exact ⟨0, g5, cap5, by omega, rfl, by omega, by rw [List.replicate_zero, List.append_nil]; exact HO5.out.1, HO5.out.2⟩
    case round =>
     obtain ⟨j, gg, cp, rfl, rfl, hj50, hr⟩ := hrel
     obtain ⟨U2, hU2⟩ : ∃ W, W = wr := ⟨_, rfl⟩
     subst hU2
     by_cases hjn : L + j < nI
     ·have hjn' : ((L + j : Nat) : Int) < (nI : Int) := by omega
      have hown := hr.out.1
      have HR : Hid (Below U0.heap.size U0 U2) := hr.out.2
      have hus : U0.heap.size ≤ U2.heap.size := hr.out.2.size
      have hgl := hown.lt gg rfl
      clear hr
      go_wp2_with (at_builtin; refine wpList_app rfl (.tmp 191) (.tmp 192) 41 rfl U0.heap.size 2 iI _ 1 8 Tryz.underlying41 hiI hI0 hI1 hI2 rfl (by decide) rfl (hown.alloc _) rfl (.inr ⟨⟨U2.heap.size, 0, none⟩, 1, rfl, rfl, cells_new _ _ _, by intro u hu; simp at hu; subst hu; rfl⟩ : SrcC _ 1 _ 1 [.int .i64 0]) (by unfold maxLen; omega) (by omega) (by simp; omega) ?_; intro g6 cap6 U3 hown6 hgrow6 hat6)
      go_roundg (nI - (L + (j + 1)))
      case measure => omega
      case rel =>
       refine ⟨j + 1, g6, cap6, rfl, rfl, by omega, ?_, ?_⟩
       ·rw [List.replicate_succ', ← List.append_assoc, List.map_append]
        exact hown6
       ·have h1 : Below U0.heap.size U0 (U2.alloc (.cells #[.int .i64 0] 2)) := ck_all HR.out (ck_grown _ _)
        exact h1.trans (below_grown hgrow6 hgl.1 h1.size)
     ·have hjn' : ¬ ((L + j : Nat) : Int) < (nI : Int) := by omega
      have HG : Hid (gg < U2.heap.size ∧ U0.heap.size ≤ gg) := ⟨(hr.out.1.lt gg rfl).2, (hr.out.1.lt gg rfl).1⟩
      have HM : Hid (Mid c d A1 A2 Q1 Q2 Q3 W9 U2 U2 r e z rb1 rb2 rb3 y1 y2 y3) := by
       have hT := HT.out.1
       have hb := hr.out.2
       have hx := hT.x.below hb
       have hy := hT.y.below hb
       have hz := hT.z.below hb
       exact ⟨hx, hy, hz, ck_all hT.bel hb, Nat.le_refl _, Nat.le_trans hT.bel.size hb.size, ⟨hx.hQ, hy.hQ, hz.hQ⟩, ⟨HW9.out.1.l1, HW9.out.1.l2⟩, HQ.out⟩
      have HP : Hid (U2.ownsRow U0.heap.size 2 1 (.slice (some ⟨gg, 0, none⟩) (L + j) cp) (L + j) ((zs ++ List.replicate j 0).map (Value.int .i64)) ∧ gg < U2.heap.size ∧ (W9.heap.size ≤ gg ∧ ¬ Q1 gg ∧ ¬ Q2 gg ∧ ¬ Q3 gg)) := by
       refine ⟨hr.out.1, HG.out.1, ?_, fun q => ?_, fun q => ?_, fun q => ?_⟩
       ·exact Nat.le_trans HT.out.1.bel.size HG.out.2
       ·have := HT.out.1.x.hQ gg q; have := HG.out.2; omega
       ·have := HT.out.1.y.hQ gg q; have := HG.out.2; omega
       ·have := HT.out.1.z.hQ gg q; have := HG.out.2; omega
      clear hr HG
      have ho1 := outs_le c r1
      have ho2 := outs_le d e1
      have hv := hv20.out
      go_upto_region 37 with fail
      go_cut [26] (fun s26 wx => ∃ (g8 c8 : Nat), s26 = .slice (some ⟨g8, 0, none⟩) ((outsC c r1).length + (outsC d e1).length) c8 ∧ Hid (Mid c d A1 A2 Q1 Q2 Q3 W9 U2 wx r1 e1 z rb1 rb2 rb3 y1 y2 y3 ∧ Row64 U2.heap.size wx (.slice (some ⟨g8, 0, none⟩) ((outsC c r1).length + (outsC d e1).length) c8) (outsC c r1 ++ outsC d e1) ∧ wx.ownsRow U0.heap.size 2 1 (.slice (some ⟨gg, 0, none⟩) (L + j) cp) (L + j) ((zs ++ List.replicate j 0).map (Value.int .i64))))
      case first =>
       have hs0 : Below W9.heap.size W9 U2.drew := HM.out.bel.drew
       obtain ⟨oo1, hoo1⟩ : ∃ o, o = outsC c r1 := ⟨_, rfl⟩
       obtain ⟨oo2, hoo2⟩ : ∃ o, o = outsC d e1 := ⟨_, rfl⟩
       have HO : Hid (oo1 = outsC c r1 ∧ oo2 = outsC d e1) := ⟨hoo1, hoo2⟩
       rw [← hoo1] at ho1
       rw [← hoo2] at ho2
       clear hoo1 hoo2
       refine wp_region_held_drew (S := fun W => Below W9.heap.size W9 W) (by kernel_rfl) hs0 (fun _ => ?_)
       refine wpAnyH_take (i := 1) (v := .pointer (some ⟨rb1, 0, none⟩)) rfl (by kernel_rfl) (by kernel_rfl) (by kernel_rfl) (fun _ _ _ h => h) (.inl ⟨by rfl, fun W hW => ?_⟩) hs0 ?_
       ·go_simp
       try simp only [Act.put, List.setIfInBounds_toArray]
       refine wpAnyH_take (i := 2) (v := .slice iad N ic) rfl (by kernel_rfl) (by kernel_rfl) (by kernel_rfl) (fun _ _ _ h => h) (.inl ⟨by rfl, fun W hW => ?_⟩) hs0 ?_
       ·go_simp
       try simp only [Act.put]
       refine wpAnyH_take (i := 3) (v := .int .i64 (k : Int)) rfl (by kernel_rfl) (by kernel_rfl) (by kernel_rfl) (fun _ _ _ h => h) (.inl ⟨by rfl, fun W hW => ?_⟩) hs0 ?_
       ·go_simp
       try simp only [Act.put]
       refine wpAnyH_take (i := 4) (v := .pointer (some ⟨ib, io + k, none⟩)) rfl (by kernel_rfl) (by kernel_rfl) (by kernel_rfl) (fun _ _ _ h => h) (.inl ⟨by rfl, fun W hW => ?_⟩) hs0 ?_
       ·go_simp
       try simp only [Act.put]
       refine wpAnyH_take (i := 5) (v := .slice ca L cc) rfl (by kernel_rfl) (by kernel_rfl) (by kernel_rfl) (fun _ _ _ h => h) (.inl ⟨by rfl, fun W hW => ?_⟩) hs0 ?_
       ·have cz := (HZ.out W hW).1.1
        go_simp
       try simp only [Act.put]
       refine wpAnyH_take (i := 8) (v := .pointer (some ⟨rb2, 0, none⟩)) rfl (by kernel_rfl) (by kernel_rfl) (by kernel_rfl) (fun _ _ _ h => h) (.inl ⟨by rfl, fun W hW => ?_⟩) hs0 ?_
       ·go_simp
       try simp only [Act.put]
       refine wpAnyH_take (i := 9) (v := .slice jad M jc) rfl (by kernel_rfl) (by kernel_rfl) (by kernel_rfl) (fun _ _ _ h => h) (.inl ⟨by rfl, fun W hW => ?_⟩) hs0 ?_
       ·go_simp
       try simp only [Act.put]
       refine wpAnyH_take (i := 10) (v := .int .i64 (k : Int)) rfl (by kernel_rfl) (by kernel_rfl) (by kernel_rfl) (fun _ _ _ h => h) (.inl ⟨by rfl, fun W hW => ?_⟩) hs0 ?_
       ·go_simp
       try simp only [Act.put]
       refine wpAnyH_take (i := 11) (v := .pointer (some ⟨jb, jo + k, none⟩)) rfl (by kernel_rfl) (by kernel_rfl) (by kernel_rfl) (fun _ _ _ h => h) (.inl ⟨by rfl, fun W hW => ?_⟩) hs0 ?_
       ·go_simp
       try simp only [Act.put]
       refine wpAnyH_take (i := 12) (v := .slice da L2 dc) rfl (by kernel_rfl) (by kernel_rfl) (by kernel_rfl) (fun _ _ _ h => h) (.inl ⟨by rfl, fun W hW => ?_⟩) hs0 ?_
       ·have cz := (HZ.out W hW).2.1
        go_simp
       try simp only [Act.put]
       refine wpAnyH_ready (rs := [0, 6]) (by kernel_rfl) (by simp) (AllReadyH.cons rfl (fun K hK => ?_) (AllReadyH.cons rfl (fun K hK => ?_) AllReadyH.nil))
       ·obtain ⟨E2, hE2⟩ : ∃ E2, E2 = (U2.alloc (.cells #[] 2)).drew := ⟨_, rfl⟩
        have hBE : Below U2.heap.size U2 E2 := by rw [hE2]; exact (ck_grown _ _).drew
        have ME := HM.out.low hBE
        have hoE : E2.ownsRow U2.heap.size 2 1 (.slice (some ⟨U2.heap.size, 0, none⟩) 0 0) 0 [] := by rw [hE2]; exact row_nil U2 _ _ _ (Nat.le_refl _)
        have hiE := own_frq HP.out.1 (FrQ.of_below (Q := fun _ => False) hBE) (fun h => h)
        have hgE : U2.heap.size ≤ U2.heap.size := Nat.le_refl _
        go_simp
        rw [← hE2]
        refine hK.out _ _ ME.bel (fun _ => ?_)
        clear hK K hE2
        try simp only [Act.put, List.setIfInBounds_toArray, List.set_cons_zero, List.set_cons_succ]
        refine wpAnyH_ready (rs := [6]) (by kernel_rfl) (by simp) (AllReadyH.cons rfl (fun K hK => ?_) AllReadyH.nil)
        go_simp
        refine (tick_run ME.x H.out.1.1.run (HZ.out E2 ME.bel).1.2 H64.out.1 HT.out.2.1).mono ?_
        rintro ee p1 ⟨a7, n7, m7, rfl, h7⟩
        have M1 := ME.tx h7.out.1 h7.out.2.2
        refine hK.out _ _ M1.bel (fun _ => ?_)
        clear hK K
        try simp only [Act.put, List.setIfInBounds_toArray, List.set_cons_zero, List.set_cons_succ]
        have hI1' := h7.out.2.1 (fun _ => False) p1 (fun _ h => h.elim) (FrQ.refl _ _)
        have ho1' := own_frq hoE h7.out.2.2 (fun q => by have := HM.out.q.1 _ q; omega)
        have hi1 := own_frq hiE h7.out.2.2 HP.out.2.2.2.1
        have hsr1 := src_nums hI1'
        rw [← HO.out.1] at hsr1
        refine wpAnyH_ready (rs := [7]) (by kernel_rfl) (by simp) (AllReadyH.cons rfl (fun K hK => ?_) AllReadyH.nil)
        refine step_app rfl (.tmp 194) (.tmp 200) 41 rfl U2.heap.size 2 iI _ 1 8 Tryz.underlying41 hiI hI0 hI1 hI2 rfl (by decide) (g := U2.heap.size) (n := 0) (cap := 0) (by kernel_rfl) ho1' (vx := .slice a7 n7 m7) (by kernel_rfl) hsr1 (by unfold maxLen; omega) (by omega) M1.sz ?_
        intro g7 c7 p2 ho2' hgr2 hat2
        rw [Nat.zero_add, List.nil_append] at ho2'
        simp only [Nat.zero_add]
        have M2 := M1.grown hgr2 (HM.out.new hgE)
        have hi2 := own_frq hi1 (frq_grown hgr2) (by have := HP.out.2.1; omega)
        refine hK.out _ _ M2.bel (fun _ => ?_)
        clear hK K
        try simp only [Act.put, List.setIfInBounds_toArray]
        refine wpAnyH_ready (rs := [13]) (by kernel_rfl) (by simp) (AllReadyH.cons rfl (fun K hK => ?_) AllReadyH.nil)
        go_simp
        refine (tick_run M2.y H.out.1.2.run (HZ.out p2 M2.bel).2.2 H64.out.2 HT.out.2.2.1).mono ?_
        rintro ee p3 ⟨a9, n9, m9, rfl, h9⟩
        have M3 := M2.ty h9.out.1 h9.out.2.2
        refine hK.out _ _ M3.bel (fun _ => ?_)
        clear hK K
        try simp only [Act.put, List.setIfInBounds_toArray, List.set_cons_zero, List.set_cons_succ]
        have hI3 := h9.out.2.1 (fun _ => False) p3 (fun _ h => h.elim) (FrQ.refl _ _)
        have hsr3 := src_nums hI3
        rw [← HO.out.2] at hsr3
        have ho3 := own_frq ho2' h9.out.2.2 (fun q => by have := HM.out.q.2.1 g7 q; have := (ho2'.lt g7 rfl).1; omega)
        have hi3 := own_frq hi2 h9.out.2.2 HP.out.2.2.2.2.1
        have hg7 := (ho2'.lt g7 rfl).1
        refine wpAnyH_ready (rs := [14]) (by kernel_rfl) (by simp) (AllReadyH.cons rfl (fun K hK => ?_) AllReadyH.nil)
        refine step_app rfl (.tmp 201) (.tmp 207) 41 rfl U2.heap.size 2 iI _ 1 8 Tryz.underlying41 hiI hI0 hI1 hI2 rfl (by decide) (g := g7) (n := oo1.length) (cap := c7) (by kernel_rfl) ho3 (vx := .slice a9 n9 m9) (by kernel_rfl) hsr3 (by unfold maxLen; omega) (by omega) M3.sz ?_
        intro g8 c8 p4 ho4 hgr4 hat4
        have M4 := M3.grown hgr4 (HM.out.new hg7)
        have hi4 := own_frq hi3 (frq_grown hgr4) (by have := HP.out.2.1; omega)
        refine hK.out _ _ M4.bel (fun _ => ?_)
        clear hK K
        try simp only [Act.put, List.setIfInBounds_toArray]
        refine wpAnyH_take (i := 15) (v := .slice (some ⟨g8, 0, none⟩) (oo1.length + oo2.length) c8) rfl (by kernel_rfl) (by kernel_rfl) (by kernel_rfl) (fun _ _ _ h => h) (.inl ⟨by rfl, fun W hW => ?_⟩) M4.bel ?_
        ·go_simp
        try simp only [Act.put]
        refine wpAnyH_done (by kernel_rfl) ?_ _
        have HF : Hid (Mid c d A1 A2 Q1 Q2 Q3 W9 U2 p4 r1 e1 z rb1 rb2 rb3 y1 y2 y3 ∧ Row64 U2.heap.size p4 (.slice (some ⟨g8, 0, none⟩) (oo1.length + oo2.length) c8) (oo1 ++ oo2) ∧ p4.ownsRow U0.heap.size 2 1 (.slice (some ⟨gg, 0, none⟩) (L + j) cp) (L + j) ((zs ++ List.replicate j 0).map (Value.int .i64))) := by
         refine ⟨M4, ?_, hi4⟩
         unfold Row64
         rw [List.length_append, List.map_append]
         exact ho4
        clear M4 hi4 ho4 hgr4 hat4 hi3 ho3 hsr3 hI3 M3 h9
        go_wp2_with fail
        go_meet
        case rel =>
         refine ⟨g8, c8, by rw [HO.out.1, HO.out.2], ?_⟩
         have h := HF.out
         rw [HO.out.1, HO.out.2] at h
         exact h
       ·go_simp
        refine (tick_run (HM.out.x.below (Below.refl _ _).drew) H.out.1.1.run (HZ.out U2.drew hs0).1.2 H64.out.1 HT.out.2.1).mono ?_
        rintro ee p1 ⟨a7, n7, m7, rfl, h7⟩
        have M1 := (HM.out.low (Below.refl _ _).drew).tx h7.out.1 h7.out.2.2
        refine hK.out _ _ M1.bel (fun _ => ?_)
        clear hK K
        try simp only [Act.put, List.setIfInBounds_toArray, List.set_cons_zero, List.set_cons_succ]
        obtain ⟨E2, hE2⟩ : ∃ E2, E2 = p1.alloc (.cells #[] 2) := ⟨_, rfl⟩
        have hBE : Below p1.heap.size p1 E2 := by rw [hE2]; exact ck_grown _ _
        have ME := M1.low hBE
        have hgE : U2.heap.size ≤ p1.heap.size := M1.sz
        have hoE : E2.ownsRow U2.heap.size 2 1 (.slice (some ⟨p1.heap.size, 0, none⟩) 0 0) 0 [] := by rw [hE2]; exact row_nil p1 _ _ _ M1.sz
        have hi1 := own_frq HP.out.1 (FrQ.trans (FrQ.of_below (Q := Q1) (Below.refl _ _).drew) h7.out.2.2) HP.out.2.2.2.1
        have hiE := own_frq hi1 (FrQ.of_below (Q := fun _ => False) hBE) (fun h => h)
        have hI1' := h7.out.2.1 (fun _ => False) E2 (fun _ h => h.elim) (FrQ.of_below hBE)
        refine wpAnyH_ready (rs := [0]) (by kernel_rfl) (by simp) (AllReadyH.cons rfl (fun K hK => ?_) AllReadyH.nil)
        go_simp
        rw [← hE2]
        refine hK.out _ _ ME.bel (fun _ => ?_)
        clear hK K hE2
        try simp only [Act.put, List.setIfInBounds_toArray, List.set_cons_zero, List.set_cons_succ]
        have hsr1 := src_nums hI1'
        rw [← HO.out.1] at hsr1
        refine wpAnyH_ready (rs := [7]) (by kernel_rfl) (by simp) (AllReadyH.cons rfl (fun K hK => ?_) AllReadyH.nil)
        refine step_app rfl (.tmp 194) (.tmp 200) 41 rfl U2.heap.size 2 iI _ 1 8 Tryz.underlying41 hiI hI0 hI1 hI2 rfl (by decide) (g := p1.heap.size) (n := 0) (cap := 0) (by kernel_rfl) hoE (vx := .slice a7 n7 m7) (by kernel_rfl) hsr1 (by unfold maxLen; omega) (by omega) ME.sz ?_
        intro g7 c7 p2 ho2' hgr2 hat2
        rw [Nat.zero_add, List.nil_append] at ho2'
        simp only [Nat.zero_add]
        have M2 := ME.grown hgr2 (HM.out.new hgE)
        have hi2 := own_frq hiE (frq_grown hgr2) (by have := HP.out.2.1; omega)
        refine hK.out _ _ M2.bel (fun _ => ?_)
        clear hK K
        try simp only [Act.put, List.setIfInBounds_toArray]
        refine wpAnyH_ready (rs := [13]) (by kernel_rfl) (by simp) (AllReadyH.cons rfl (fun K hK => ?_) AllReadyH.nil)
        go_simp
        refine (tick_run M2.y H.out.1.2.run (HZ.out p2 M2.bel).2.2 H64.out.2 HT.out.2.2.1).mono ?_
        rintro ee p3 ⟨a9, n9, m9, rfl, h9⟩
        have M3 := M2.ty h9.out.1 h9.out.2.2
        refine hK.out _ _ M3.bel (fun _ => ?_)
        clear hK K
        try simp only [Act.put, List.setIfInBounds_toArray, List.set_cons_zero, List.set_cons_succ]
        have hI3 := h9.out.2.1 (fun _ => False) p3 (fun _ h => h.elim) (FrQ.refl _ _)
        have hsr3 := src_nums hI3
        rw [← HO.out.2] at hsr3
        have ho3 := own_frq ho2' h9.out.2.2 (fun q => by have := HM.out.q.2.1 g7 q; have := (ho2'.lt g7 rfl).1; omega)
        have hi3 := own_frq hi2 h9.out.2.2 HP.out.2.2.2.2.1
        have hg7 := (ho2'.lt g7 rfl).1
        refine wpAnyH_ready (rs := [14]) (by kernel_rfl) (by simp) (AllReadyH.cons rfl (fun K hK => ?_) AllReadyH.nil)
        refine step_app rfl (.tmp 201) (.tmp 207) 41 rfl U2.heap.size 2 iI _ 1 8 Tryz.underlying41 hiI hI0 hI1 hI2 rfl (by decide) (g := g7) (n := oo1.length) (cap := c7) (by kernel_rfl) ho3 (vx := .slice a9 n9 m9) (by kernel_rfl) hsr3 (by unfold maxLen; omega) (by omega) M3.sz ?_
        intro g8 c8 p4 ho4 hgr4 hat4
        have M4 := M3.grown hgr4 (HM.out.new hg7)
        have hi4 := own_frq hi3 (frq_grown hgr4) (by have := HP.out.2.1; omega)
        refine hK.out _ _ M4.bel (fun _ => ?_)
        clear hK K
        try simp only [Act.put, List.setIfInBounds_toArray]
        refine wpAnyH_take (i := 15) (v := .slice (some ⟨g8, 0, none⟩) (oo1.length + oo2.length) c8) rfl (by kernel_rfl) (by kernel_rfl) (by kernel_rfl) (fun _ _ _ h => h) (.inl ⟨by rfl, fun W hW => ?_⟩) M4.bel ?_
        ·go_simp
        try simp only [Act.put]
        refine wpAnyH_done (by kernel_rfl) ?_ _
        have HF : Hid (Mid c d A1 A2 Q1 Q2 Q3 W9 U2 p4 r1 e1 z rb1 rb2 rb3 y1 y2 y3 ∧ Row64 U2.heap.size p4 (.slice (some ⟨g8, 0, none⟩) (oo1.length + oo2.length) c8) (oo1 ++ oo2) ∧ p4.ownsRow U0.heap.size 2 1 (.slice (some ⟨gg, 0, none⟩) (L + j) cp) (L + j) ((zs ++ List.replicate j 0).map (Value.int .i64))) := by
         refine ⟨M4, ?_, hi4⟩
         unfold Row64
         rw [List.length_append, List.map_append]
         exact ho4
        clear M4 hi4 ho4 hgr4 hat4 hi3 ho3 hsr3 hI3 M3 h9
        go_wp2_with fail
        go_meet
        case rel =>
         refine ⟨g8, c8, by rw [HO.out.1, HO.out.2], ?_⟩
         have h := HF.out
         rw [HO.out.1, HO.out.2] at h
         exact h
      case rest =>
       obtain ⟨g8, c8, e8, h8⟩ := hcut
       subst e8
       obtain ⟨U4, hU4⟩ : ∃ W, W = wc := ⟨_, rfl⟩
       subst hU4
       obtain ⟨o8, ho8⟩ : ∃ o, o = (outsC c r1).length + (outsC d e1).length := ⟨_, rfl⟩
       rw [← ho8] at h8 ⊢
       obtain ⟨z1, htz, hbz⟩ := bes_tick H.out.1.1.ok H.out.1.2.ok HC.out.1 (a := zs) (b := ys) (ins := (zs ++ List.replicate j 0).take nI ++ ys) (fun i hi => by rw [← HNI.out] at hi; exact pad_get zs ys j nI i (by have := HL.out.1; omega) hi) (by rw [← HNI.out]; exact pad_drop zs ys j nI (by have := HL.out.1; omega)) HT.out.1.bes HT.out.2.1 HT.out.2.2.1
       obtain ⟨ins, hins⟩ : ∃ ins, ins = (zs ++ List.replicate j 0).take nI ++ ys := ⟨_, rfl⟩
       rw [← hins] at htz
       have HTZ : Hid (tickC (besC c d) ins z = some z1 ∧ BesD c d r1 e1 z1 ∧ o8 = (outsC c r1 ++ outsC d e1).length ∧ ∀ y ∈ ins, N64 y) := ⟨htz, hbz, by rw [List.length_append]; exact ho8, fun y hy => by
        rw [hins] at hy
        rcases List.mem_append.1 hy with h | h
        ·rcases List.mem_append.1 (List.mem_of_mem_take h) with h | h
         ·exact H64.out.1 y h
         ·rw [(List.mem_replicate.1 h).2]; exact ⟨by omega, by omega⟩
        ·exact H64.out.2 y h⟩
       have hcp : L + j ≤ cp := by
        obtain ⟨_, h2⟩ := h8.out.2.2
        rcases h2 with ⟨h, _⟩ | ⟨_, _, _, h, _, _, h3, _⟩
        ·injection h with h; exact absurd h (by simp)
        ·injection h with _ _ h; omega
       have hb1 : (0 : Int) ≤ (nI : Int) := by omega
       have hb2 : (nI : Int) ≤ (cp : Int) := by omega
       have M0 := h8.out.1.low (Below.refl _ _).drew
       have hoI := own_cut h8.out.2.2 (m := nI) (by omega)
       rw [Nat.mul_one] at hoI
       have hoI' : U4.drew.ownsRow U0.heap.size 2 1 (.slice (some ⟨gg, 0, none⟩) nI cp) nI (((zs ++ List.replicate j 0).map (Value.int .i64)).take nI) := hoI
       have hsr : SrcC U4.drew 1 (.slice da L2 dc) L2 (ys.map (Value.int .i64)) := by
        have h := src_nums (HZ.out U4.drew M0.bel).2.2
        rw [← HL.out.2] at h
        exact h
       have HI : Hid ((((zs ++ List.replicate j 0).map (Value.int .i64)).take nI) ++ ys.map (Value.int .i64) = ins.map (Value.int .i64) ∧ nI + L2 = ins.length) := by
        refine ⟨by rw [hins, ← List.map_take, ← List.map_append], ?_⟩
        rw [hins, List.length_append, List.length_take, List.length_append, List.length_replicate, ← HL.out.1, ← HL.out.2]
        omega
       have H8 : Hid (U4.ownsRow U2.heap.size 2 1 (.slice (some ⟨g8, 0, none⟩) o8 c8) o8 ((outsC c r1 ++ outsC d e1).map (Value.int .i64)) ∧ U2.heap.size ≤ g8) := by
        have h := h8.out.2.1
        unfold Row64 at h
        rw [← HTZ.out.2.2.1] at h
        exact ⟨h, (h.lt g8 rfl).1⟩
       have ho8' : o8 ≤ 20 := by omega
       have hs0' : U0.heap.size ≤ U4.heap.size := Nat.le_trans (Nat.le_trans (hoI.lt gg rfl).1 (Nat.le_of_lt (hoI.lt gg rfl).2)) (Nat.le_refl _)
       have HM0 : Hid (Mid c d A1 A2 Q1 Q2 Q3 W9 U2 U4 r1 e1 z rb1 rb2 rb3 y1 y2 y3) := h8.out.1
       clear htz hbz ho8 hins h8 hoI
       go_upto_region 38 with fail
       refine wp_region_held_drew (S := fun W => Below W9.heap.size W9 W) (by kernel_rfl) M0.bel (fun _ => ?_)
       refine wpAnyH_take (i := 0) (v := .pointer (some ⟨rb3, 0, none⟩)) rfl (by kernel_rfl) (by kernel_rfl) (by kernel_rfl) (fun _ _ _ h => h) (.inl ⟨by rfl, fun W hW => ?_⟩) M0.bel ?_
       ·go_simp
       try simp only [Act.put, List.setIfInBounds_toArray]
       refine wpAnyH_take (i := 1) (v := .slice (some ⟨gg, 0, none⟩) (L + j) cp) rfl (by kernel_rfl) (by kernel_rfl) (by kernel_rfl) (fun _ _ _ h => h) (.inl ⟨by rfl, fun W hW => ?_⟩) M0.bel ?_
       ·go_simp
       try simp only [Act.put]
       refine wpAnyH_take (i := 2) (v := .int .i64 (nI : Int)) rfl (by kernel_rfl) (by kernel_rfl) (by kernel_rfl) (fun _ _ _ h => h) (.inl ⟨by rfl, fun W hW => ?_⟩) M0.bel ?_
       ·go_simp
       try simp only [Act.put]
       refine wpAnyH_take (i := 3) (v := .slice (some ⟨gg, 0, none⟩) nI cp) rfl (by kernel_rfl) (by kernel_rfl) (by kernel_rfl) (fun _ _ _ h => h) (.inl ⟨by rfl, fun W hW => ?_⟩) M0.bel ?_
       ·go_simp
       try simp only [Act.put]
       refine wpAnyH_take (i := 4) (v := .slice jad M jc) rfl (by kernel_rfl) (by kernel_rfl) (by kernel_rfl) (fun _ _ _ h => h) (.inl ⟨by rfl, fun W hW => ?_⟩) M0.bel ?_
       ·go_simp
       try simp only [Act.put]
       refine wpAnyH_take (i := 5) (v := .int .i64 (k : Int)) rfl (by kernel_rfl) (by kernel_rfl) (by kernel_rfl) (fun _ _ _ h => h) (.inl ⟨by rfl, fun W hW => ?_⟩) M0.bel ?_
       ·go_simp
       try simp only [Act.put]
       refine wpAnyH_take (i := 6) (v := .pointer (some ⟨jb, jo + k, none⟩)) rfl (by kernel_rfl) (by kernel_rfl) (by kernel_rfl) (fun _ _ _ h => h) (.inl ⟨by rfl, fun W hW => ?_⟩) M0.bel ?_
       ·go_simp
       try simp only [Act.put]
       refine wpAnyH_take (i := 7) (v := .slice da L2 dc) rfl (by kernel_rfl) (by kernel_rfl) (by kernel_rfl) (fun _ _ _ h => h) (.inl ⟨by rfl, fun W hW => ?_⟩) M0.bel ?_
       ·have cz := (HZ.out W hW).2.1
        go_simp
       try simp only [Act.put]
       refine wpAnyH_take (i := 10) (v := .slice (some ⟨g8, 0, none⟩) o8 c8) rfl (by kernel_rfl) (by kernel_rfl) (by kernel_rfl) (fun _ _ _ h => h) (.inl ⟨by rfl, fun W hW => ?_⟩) M0.bel ?_
       ·go_simp
       try simp only [Act.put]
       refine wpAnyH_ready (rs := [8]) (by kernel_rfl) (by simp) (AllReadyH.cons rfl (fun K hK => ?_) AllReadyH.nil)
       refine step_app rfl (.tmp 212) (.tmp 216) 41 rfl U0.heap.size 2 iI _ 1 8 Tryz.underlying41 hiI hI0 hI1 hI2 rfl (by decide) (g := gg) (n := nI) (cap := cp) (by kernel_rfl) hoI' (vx := .slice da L2 dc) (by kernel_rfl) hsr (by unfold maxLen; omega) (by omega) hs0' ?_
       intro g9 c9 p1 ho9 hgr9 hat9
       have M1 := M0.grown hgr9 HP.out.2.2
       have hr1 := own_frq (show U4.drew.ownsRow U2.heap.size 2 1 (.slice (some ⟨g8, 0, none⟩) o8 c8) o8 ((outsC c r1 ++ outsC d e1).map (Value.int .i64)) from H8.out.1) (frq_grown hgr9) (by have := HP.out.2.1; have := H8.out.2; omega)
       have hin1 : Row64 U0.heap.size p1 (.slice (some ⟨g9, 0, none⟩) (nI + L2) c9) ins := by
        unfold Row64
        rw [← HI.out.1, ← HI.out.2]
        exact ho9
       have HR1 : Hid (Mid c d A1 A2 Q1 Q2 Q3 W9 U2 p1 r1 e1 z rb1 rb2 rb3 y1 y2 y3 ∧ p1.ownsRow U2.heap.size 2 1 (.slice (some ⟨g8, 0, none⟩) o8 c8) o8 ((outsC c r1 ++ outsC d e1).map (Value.int .i64)) ∧ Row64 U0.heap.size p1 (.slice (some ⟨g9, 0, none⟩) (nI + L2) c9) ins) := ⟨M1, hr1, hin1⟩
       clear M1 hr1 hin1 ho9 hgr9 hat9
       refine hK.out _ _ HR1.out.1.bel (fun _ => ?_)
       clear hK K
       try simp only [Act.put]
       refine wpAnyH_ready (rs := [9]) (by kernel_rfl) (by simp) (AllReadyH.cons rfl (fun K hK => ?_) AllReadyH.nil)
       go_simp
       refine (tick_run HR1.out.1.z HC.out.2.run HR1.out.2.2.nums HTZ.out.2.2.2 HTZ.out.1).mono ?_
       rintro ee p2 ⟨a9, n9, m9, rfl, h9⟩
       have HR2 : Hid (Mid c d A1 A2 Q1 Q2 Q3 W9 U2 p2 r1 e1 z1 rb1 rb2 rb3 y1 y2 y3 ∧ INums p2 (.slice a9 n9 m9) (outsC c r1 ++ outsC d e1) ∧ INums p2 (.slice (some ⟨g8, 0, none⟩) o8 c8) (outsC c r1 ++ outsC d e1)) := by
        refine ⟨HR1.out.1.tz h9.out.1 h9.out.2.2, ?_, ?_⟩
        ·have h := h9.out.2.1 (fun _ => False) p2 (fun _ h => h.elim) (FrQ.refl _ _)
         rw [bes_outs HTZ.out.2.1] at h
         exact h
        ·have h := own_frq HR1.out.2.1 h9.out.2.2 (fun q => by have := HM0.out.q.2.2 g8 q; have := H8.out.2; omega)
         rw [HTZ.out.2.2.1] at h ⊢
         exact Row64.nums h
       clear h9
       refine hK.out _ _ HR2.out.1.bel (fun _ => ?_)
       clear hK K
       try simp only [Act.put, List.setIfInBounds_toArray, List.set_cons_zero, List.set_cons_succ]
       have hsm := same_nums HR2.out.2.1 HR2.out.2.2 (by have := HTZ.out.2.2.1; omega)
       refine wpAnyH_ready (rs := [11]) (by kernel_rfl) (by simp) (AllReadyH.cons rfl (fun K hK => ?_) AllReadyH.nil)
       go_simp
       refine hsm.mono ?_
       rintro ee p3 ⟨rfl, h3⟩
       have HR3 : Hid (Mid c d A1 A2 Q1 Q2 Q3 W9 U2 p3 r1 e1 z1 rb1 rb2 rb3 y1 y2 y3) := HR2.out.1.low h3.out
       clear hsm h3
       refine hK.out _ _ HR3.out.bel (fun _ => ?_)
       clear hK K
       try simp only [Act.put, List.setIfInBounds_toArray, List.set_cons_zero, List.set_cons_succ]
       refine wpAnyH_take (i := 12) (v := .bool false) rfl (by kernel_rfl) (by kernel_rfl) (by kernel_rfl) (fun _ _ _ h => h) (.inl ⟨by rfl, fun W hW => ?_⟩) HR3.out.bel ?_
       ·go_simp
       try simp only [Act.put, List.setIfInBounds_toArray]
       refine wpAnyH_take (i := 13) (v := .bool false) rfl (by kernel_rfl) (by kernel_rfl) (by kernel_rfl) (fun _ _ _ h => h) (.inl ⟨by rfl, fun W hW => ?_⟩) HR3.out.bel ?_
       ·go_simp
       try simp only [Act.put]
       refine wpAnyH_take (i := 14) (v := .pointer (some ⟨rb3, 0, none⟩)) rfl (by kernel_rfl) (by kernel_rfl) (by kernel_rfl) (fun _ _ _ h => h) (.inl ⟨by rfl, fun W hW => ?_⟩) HR3.out.bel ?_
       ·go_simp
       try simp only [Act.put]
       refine wpAnyH_take (i := 17) (v := .pointer (some ⟨rb1, 0, none⟩)) rfl (by kernel_rfl) (by kernel_rfl) (by kernel_rfl) (fun _ _ _ h => h) (.inl ⟨by rfl, fun W hW => ?_⟩) HR3.out.bel ?_
       ·go_simp
       try simp only [Act.put]
       refine wpAnyH_take (i := 20) (v := .pointer (some ⟨rb2, 0, none⟩)) rfl (by kernel_rfl) (by kernel_rfl) (by kernel_rfl) (fun _ _ _ h => h) (.inl ⟨by rfl, fun W hW => ?_⟩) HR3.out.bel ?_
       ·go_simp
       try simp only [Act.put]
       refine wpAnyH_ready (rs := [15]) (by kernel_rfl) (by simp) (AllReadyH.cons rfl (fun K hK => ?_) AllReadyH.nil)
       go_simp
       refine (There_any HR3.out.z HC.out.2.run (thereC_len HC.out.2.nm _)).mono ?_
       rintro ee p4 ⟨at15, nt3, mt15, rfl, ht⟩
       have Hnt3 : Hid (nt3 = (thereC (besC c d) z1).length) := rowS_len ht.out.1
       have HR4 : Hid (Mid c d A1 A2 Q1 Q2 Q3 W9 U2 p4 r1 e1 z1 rb1 rb2 rb3 y1 y2 y3) := HR3.out.low ht.out.2
       clear ht
       refine hK.out _ _ HR4.out.bel (fun _ => ?_)
       clear hK K
       try simp only [Act.put, List.setIfInBounds_toArray, List.set_cons_zero, List.set_cons_succ]
       refine wpAnyH_take (i := 16) (v := .int .i64 (nt3 : Int)) rfl (by kernel_rfl) (by kernel_rfl) (by kernel_rfl) (fun _ _ _ h => h) (.inl ⟨by rfl, fun W hW => ?_⟩) HR4.out.bel ?_
       ·go_simp
       try simp only [Act.put, List.setIfInBounds_toArray]
       refine wpAnyH_ready (rs := [18]) (by kernel_rfl) (by simp) (AllReadyH.cons rfl (fun K hK => ?_) AllReadyH.nil)
       go_simp
       refine (There_any HR4.out.x H.out.1.1.run (thereC_len H.out.1.1.nm _)).mono ?_
       rintro ee p5 ⟨at18, nt1, mt18, rfl, ht⟩
       have Hnt1 : Hid (nt1 = (thereC c r1).length) := rowS_len ht.out.1
       have HR5 : Hid (Mid c d A1 A2 Q1 Q2 Q3 W9 U2 p5 r1 e1 z1 rb1 rb2 rb3 y1 y2 y3) := HR4.out.low ht.out.2
       clear ht
       refine hK.out _ _ HR5.out.bel (fun _ => ?_)
       clear hK K
       try simp only [Act.put, List.setIfInBounds_toArray, List.set_cons_zero, List.set_cons_succ]
       refine wpAnyH_take (i := 19) (v := .int .i64 (nt1 : Int)) rfl (by kernel_rfl) (by kernel_rfl) (by kernel_rfl) (fun _ _ _ h => h) (.inl ⟨by rfl, fun W hW => ?_⟩) HR5.out.bel ?_
       ·go_simp
       try simp only [Act.put, List.setIfInBounds_toArray]
       refine wpAnyH_ready (rs := [21]) (by kernel_rfl) (by simp) (AllReadyH.cons rfl (fun K hK => ?_) AllReadyH.nil)
       go_simp
       refine (There_any HR5.out.y H.out.1.2.run (thereC_len H.out.1.2.nm _)).mono ?_
       rintro ee p6 ⟨at21, nt2, mt21, rfl, ht⟩
       have Hnt2 : Hid (nt2 = (thereC d e1).length) := rowS_len ht.out.1
       have HR6 : Hid (Mid c d A1 A2 Q1 Q2 Q3 W9 U2 p6 r1 e1 z1 rb1 rb2 rb3 y1 y2 y3) := HR5.out.low ht.out.2
       clear ht
       refine hK.out _ _ HR6.out.bel (fun _ => ?_)
       clear hK K
       try simp only [Act.put, List.setIfInBounds_toArray, List.set_cons_zero, List.set_cons_succ]
       refine wpAnyH_take (i := 22) (v := .int .i64 (nt2 : Int)) rfl (by kernel_rfl) (by kernel_rfl) (by kernel_rfl) (fun _ _ _ h => h) (.inl ⟨by rfl, fun W hW => ?_⟩) HR6.out.bel ?_
       ·go_simp
       try simp only [Act.put, List.setIfInBounds_toArray]
       have hnt : (nt3 : Int) = (nt1 : Int) + (nt2 : Int) := by
        have h := congrArg List.length (bes_there HTZ.out.2.1)
        rw [List.length_append, ← Hnt3.out, ← Hnt1.out, ← Hnt2.out] at h
        omega
       have hntb : (nt1 : Int) ≤ 1000000 ∧ (nt2 : Int) ≤ 1000000 := by
        have h1 := thereC_len H.out.1.1.nm r1
        have h2 := thereC_len H.out.1.2.nm e1
        rw [← Hnt1.out] at h1
        rw [← Hnt2.out] at h2
        omega
       have hwr : IntKind.i64.wrap ((nt1 : Int) + (nt2 : Int)) = (nt1 : Int) + (nt2 : Int) := by rw [IntKind.wrap_i64]; omega
       refine wpAnyH_take (i := 23) (v := .int .i64 ((nt1 : Int) + (nt2 : Int))) rfl (by kernel_rfl) (by kernel_rfl) (by kernel_rfl) (fun _ _ _ h => h) (.inl ⟨by rfl, fun W hW => ?_⟩) HR6.out.bel ?_
       ·go_simp
       try simp only [Act.put]
       refine wpAnyH_take (i := 24) (v := .bool false) rfl (by kernel_rfl) (by kernel_rfl) (by kernel_rfl) (fun _ _ _ h => h) (.inl ⟨by rfl, fun W hW => ?_⟩) HR6.out.bel ?_
       ·go_simp
       try simp only [Act.put]
       refine wpAnyH_take (i := 25) (v := .bool false) rfl (by kernel_rfl) (by kernel_rfl) (by kernel_rfl) (fun _ _ _ h => h) (.inl ⟨by rfl, fun W hW => ?_⟩) HR6.out.bel ?_
       ·go_simp
       try simp only [Act.put]
       refine wpAnyH_done (by kernel_rfl) ?_ _
       clear hnt hntb hwr
       go_wp2_with fail
       go_roundg (N - (k + 1))
       case measure => omega
       case rel => exact ⟨k + 1, by omega, by omega, by go_num, r1, e1, z1, HTZ.out.2.1, HT.out.2.2.2.1, HT.out.2.2.2.2, HR6.out.x, HR6.out.y, HR6.out.z, HR6.out.bel⟩
   ·go_wp2_with fail
    go_ret
    exact ⟨rfl, HBw.out⟩
  ·go_wp2_with fail
   go_ret
   exact ⟨rfl, HBw.out⟩)
end Kx
end Go.Proofs.YtpogmfliojcnjaaGreatDoor
