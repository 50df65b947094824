/- way: a struct as a result, with what is set, and when. -/
import Derived.Test.YtiihgnagjemikaaGreatDoorVPvar
namespace Go.Proofs.YtiihgnagjemikaaGreatDoor
open Go.RowKit Px

theorem keepX {n : Nat} {X : List Nat} {w w' : World} (hX : ∀ x ∈ X, x < n) (hf : Fr w.heap.size X w w') : Keep (Ge n) (Ge n) w w' := hf.keep (fun b hb hm => by have := hX b hm; simp [Ge] at hb; omega)
theorem ownX {B e size n : Nat} {X : List Nat} {v : Value} {xs : List Value} {w w' : World} (h : w.ownsRow B e size v n xs) (hX : ∀ x ∈ X, x < B) (hf : Fr w.heap.size X w w') : w'.ownsRow B e size v n xs := by
  refine ⟨h.1, ?_⟩
  rcases h.2 with hn | ⟨g, cap, cur, rfl, hb, hgg, rest⟩
  · exact .inl hn
  · exact .inr ⟨g, cap, cur, rfl, hb, by rw [hf.block g (lt_of_block hgg) (fun hm => by have := hX g hm; omega)]; exact hgg, rest⟩
theorem fr_put (w : World) (b o : Nat) (v : Value) : Fr w.heap.size [b] w (w.setCell ⟨b, o, none⟩ v) := (Fr.refl _ _ _).setCell (p := ⟨b, o, none⟩) (.inr (by simp)) v
theorem fr_row (w : World) (b : Nat) (cs : Array Value) : Fr w.heap.size [b] w (w.setRow b cs) := (Fr.refl _ _ _).row (.inr (by simp)) cs
theorem IsSets.ge {n m : Nat} {w : World} {l : List Asg} {v : Value} (h : IsSets (Ge m) w l v) (hn : n ≤ m) : IsSets (Ge n) w l v := h.carry (fun _ hb _ => ⟨Nat.le_trans hn hb, rfl⟩)
theorem isSets_nil (A : Nat → Prop) (w : World) : IsSets A w [] (.slice none 0 0) := ⟨[], ⟨World.ownsRow_nil _ _ _ _, fun g hg => by simp [Value.ownBlock] at hg⟩, rfl⟩
def tailW (L : List Lx.Tok) (kind i n : Nat) (e : E) (l : List Asg) (m : Nat) : Except F (Wy × Nat) :=
  if tx L m = kArrow then
    match nm L (m + 1) with
    | .error x => .error x
    | .ok s =>
      if tx L (opt L kHist (m + 2)) = kSemi then .ok (⟨kind, decide (tx L i = kImm), e, n, l, s, decide (tx L (m + 2) = kHist)⟩, opt L kHist (m + 2) + 1)
      else .error (3, pl L (opt L kHist (m + 2)))
  else .error (3, pl L m)
theorem way_err1 {L : List Lx.Tok} {kind i : Nat} {f : F} (h : cond L (opt L kImm i) = .error f) : way L kind i = .error f := by rw [way, h]
theorem way_err2 {L : List Lx.Tok} {kind i n j : Nat} {e : E} {f : F} (h : cond L (opt L kImm i) = .ok (n, e, j)) (h2 : does L j = .error f) : way L kind i = .error f := by rw [way, h]; simp only; rw [h2]
theorem way_tail {L : List Lx.Tok} {kind i n j m : Nat} {e : E} {l : List Asg} (h : cond L (opt L kImm i) = .ok (n, e, j)) (h2 : does L j = .ok (l, m)) : way L kind i = tailW L kind i n e l m := by rw [way, h]; simp only; rw [h2]; simp only; rw [tailW]; split <;> rfl
theorem tail_arrow {L : List Lx.Tok} {kind i n m : Nat} {e : E} {l : List Asg} (h : tx L m ≠ kArrow) : tailW L kind i n e l m = .error (3, pl L m) := if_neg h
theorem tail_name {L : List Lx.Tok} {kind i n m : Nat} {e : E} {l : List Asg} {f : F} (h : tx L m = kArrow) (h2 : nm L (m + 1) = .error f) : tailW L kind i n e l m = .error f := by rw [tailW, if_pos h, h2]
theorem tail_semi {L : List Lx.Tok} {kind i n m : Nat} {e : E} {l : List Asg} {s : Str} (h : tx L m = kArrow) (h2 : nm L (m + 1) = .ok s) : tailW L kind i n e l m = if tx L (opt L kHist (m + 2)) = kSemi then .ok (⟨kind, decide (tx L i = kImm), e, n, l, s, decide (tx L (m + 2) = kHist)⟩, opt L kHist (m + 2) + 1) else .error (3, pl L (opt L kHist (m + 2))) := by rw [tailW, if_pos h, h2]
theorem Tryz.size180 : (Tryz.prog.info? 180).map (·.size) = some 7 := by kernel_rfl
theorem load82 {W : World} {g : Nat} {fc : Array Value} (hsz : fc.size = 7) (hg : W.heap[g]? = some (.cells fc 180 (0, 0))) : (loadVar 180 ⟨g, 0, none⟩).run Tryz.prog W = .ok (.agg fc) W :=
  run_loadVar_row (P := Tryz.prog) W g 180 180 fc (0, 0) _ hg Tryz.underlying180 rfl (by rw [hsz]; exact Tryz.size180)
theorem results151 (tmps : Array Value) (W : World) (g : Nat) (fc : Array Value) (hsz : fc.size = 7) (hp : tmps.getD 4 undef = .pointer (some ⟨g, 0, none⟩)) (hg : W.heap[g]? = some (.cells fc 180 (0, 0))) :
    (results Tryz.f135 tmps).run Tryz.prog W = .ok (.agg fc) W := by
  have hp' : tmps[4]?.getD undef = .pointer (some ⟨g, 0, none⟩) := by simpa using hp
  simp [results, Tryz.results135, hp', asAddr, load82 hsz hg]
theorem seven_one (a n : Int) (b c : Bool) (p : Option Addr) (ao : Option Addr) (x y : Nat) (s : ByteArray) : (#[Value.int .i64 a, .bool b, .pointer p, .int .i64 n, .slice ao x y, .string s, .bool c] : Array Value).all (·.oneCell') = true := by simp [Value.oneCell']
def wayA (a : Wy) (p q : Value) : Array Value := #[.int .i64 a.kind, .bool a.now, p, .int .i64 a.times, q, sv a.to, .bool a.back]
def OkW (C : Ctx) (w : World) (st ins : Nat) (x : Wy × Nat) (v : Value) (w' : World) : Prop := (∃ p q, v = .agg (wayA x.1 p q) ∧ IsE (Ge w.heap.size) w' x.1.cond p ∧ IsSets (Ge w.heap.size) w' x.1.sets q) ∧ PS C w' x.2 st ins 0
abbrev Z82 : Array Value := #[.int .i64 0, .bool false, .pointer none, .int .i64 0, .slice none 0 0, .string ⟨#[]⟩, .bool false]
abbrev Y82 (kind n : Int) (b : Bool) (p q : Value) (s : ByteArray) (c : Bool) : Array Value := #[.int .i64 kind, .bool b, p, .int .i64 n, q, .string s, .bool c]

set_option maxRecDepth 100000 in
set_option maxHeartbeats 8000000 in
theorem way_none {C : Ctx} {w : World} {i st ins : Nat} (h : PS C w i st ins 0) (kind : Nat) (hif : tx C.L (opt C.L kImm i) ≠ kIf) : Calls Tryz.prog 135 #[.pointer (some ⟨C.rb, 0, none⟩), .int .i64 kind] w (Out C (OkW C w st ins) w (way C.L kind i)) := by
  have hC := h.lts.1
  obtain ⟨hp0, hf0⟩ := h.alloc (.cells Z82 180)
  have H0 : (w.alloc (.cells Z82 180)).heap[w.heap.size]? = some (.cells Z82 180 (0, 0)) := heap_alloc_new _ _
  have HC : Hid (cond C.L (opt C.L kImm i) = .ok (1, .nil, opt C.L kImm i)) := if_neg hif
  have HIF : Hid _ := hif
  clear hif
  have T1 : Hid True := trivial
  have T2 : Hid True := trivial
  have T3 : Hid True := trivial
  have T4 : Hid True := trivial
  have T5 : Hid True := trivial
  go_enter Tryz.func135, Tryz.ntmps135
  go_wp2_with (first
    | (go_at_call 65; clear T1; refine (take_any hp0 ⟨#[105, 109, 109, 101, 100, 105, 97, 116, 101]⟩ kImm rfl (by decide)).mono ?_; rintro e w1 ⟨rfl, hp1, hf1⟩; obtain ⟨b1, hb1⟩ : ∃ b1, Hid (b1 = decide (tx C.L i = kImm)) := ⟨_, rfl⟩; rw [← hb1.out]; have H1 := blk H0 hC hf1; obtain ⟨hp2, hf2⟩ := hp1.alloc (.cells (Y82 kind 1 b1 (.pointer none) (.slice none 0 0) ⟨#[]⟩ false) 180); have H2 := blk H1 hC hf2; have hc1 := hp1.lts.1; have hne : w.heap.size ≠ w1.heap.size := (by (have := hf1.size; simp at this; omega)); have K2 : (w1.alloc (.cells (Y82 kind 1 b1 (.pointer none) (.slice none 0 0) ⟨#[]⟩ false) 180)).heap[w1.heap.size]? = some (.cells (Y82 kind 1 b1 (.pointer none) (.slice none 0 0) ⟨#[]⟩ false) 180 (0, 0)) := heap_alloc_new _ _; have hF2 := (hf0.up hf1).up hf2)
    | (go_at_call 65; clear T2; refine (take_no hp2 ⟨#[105, 102]⟩ HIF.out).mono ?_; rintro e w3 ⟨rfl, hp3, hf3⟩; have H3 := blk H2 hC hf3.wide; have K3 := blk K2 hc1 hf3.wide; have hF3 := hF2.up hf3.wide; have hs3 := hf3.size))
  have hpD := hp3
  have HD := H3
  have KD := K3
  have hFD := hF3
  have hvD : IsE (Ge (w1.heap.size + 1)) w3 .nil (.pointer none) := rfl
  have hX1 : ∀ x ∈ [C.rb], x < w1.heap.size + 1 := by simp; omega
  by_cases hdo : tx C.L (opt C.L kImm i) = kDo
  ·
    have HDO : Hid _ := hdo
    go_wp2_with (first
      | (go_at_call 65; clear T4; refine (take_yes hpD ⟨#[100, 111]⟩ hdo (by decide)).mono ?_; rintro e x1 ⟨rfl, hq1, hg1⟩; have M1 := blk HD hC hg1; have N1 := blk KD hc1 hg1; have hG1 := hFD.up hg1; have hu1 := hvD.carry (keepX hX1 hg1); have hs1 := hg1.size)
      | (go_at_call 136; refine (sets_any hq1).mono ?_; rintro e x2 h2; rcases h2.cases with ⟨f, hr2, q, rfl, hq⟩ | ⟨⟨l2, m2⟩, v2, hr2, rfl, ⟨⟨xs2, hS2⟩, -, hq2⟩, hg2⟩; (· exact ⟨rfl, by rw [way_err2 HC.out (by rw [does, if_pos HDO.out]; exact hr2.out)]; exact Thrown.up hG1 ⟨q, rfl, hq⟩⟩); obtain ⟨ao2, cap2, rfl⟩ := owns_shape hS2.own; have M2 := blk M1 hC hg2; have N2 := blk N1 hc1 hg2; obtain ⟨k4, z4⟩ := cel N2 4 _ rfl; obtain ⟨M3, N3⟩ := blk2 M2 N2 hne 4 (.slice ao2 l2.length cap2); have hq3 := hq2.put hc1 4 (.slice ao2 l2.length cap2); have hG3 := (hG1.up hg2).setCell (p := ⟨w1.heap.size, 4, none⟩) (.inl ((hf0.up hf1).size)) (.slice ao2 l2.length cap2); have hu3 := (hu1.carry (keepX hX1 hg2)).carry (keepX (by simp) (fr_put x2 w1.heap.size 4 (.slice ao2 l2.length cap2))); have hs2 := hg2.size; have hd3 := (hS2.done.ge (n := w1.heap.size + 1) (lt_of_block N1)).carry (keepX (by simp) (fr_put x2 w1.heap.size 4 (.slice ao2 l2.length cap2))))
      | (go_at_call 57; clear T5; refine (need_any hq3 ⟨#[45, 45, 62]⟩ kArrow rfl (by decide)).mono ?_; rintro e x4 h4; rcases h4.cases with ⟨f, hr4, q, rfl, hq⟩ | ⟨_, v4, hr4, rfl, ⟨rfl, hq4⟩, hg4⟩; (· exact ⟨rfl, by rw [way_tail HC.out (by rw [does, if_pos HDO.out]; exact hr2.out), tail_arrow (need_bad hr4).1, ← (need_bad hr4).2]; exact Thrown.up hG3 ⟨q, rfl, hq⟩⟩); have M4 := blk M3 hC hg4; have N4 := blk N3 hc1 hg4; have hG4 := hG3.up hg4; have hu4 := hu3.carry (keepX hX1 hg4); have hd4 := hd3.carry (keepX hX1 hg4))
      | (go_at_call 58; refine (name_any hq4).mono ?_; rintro e x5 h5; rcases h5.cases with ⟨f, hr5', q, rfl, hq⟩ | ⟨s5, v5', hr5', rfl, ⟨rfl, hq5⟩, hg5⟩; (· exact ⟨rfl, by rw [way_tail HC.out (by rw [does, if_pos HDO.out]; exact hr2.out), tail_name (need_ok hr4) hr5'.out]; exact Thrown.up hG4 ⟨q, rfl, hq⟩⟩); rw [sv]; have M5 := blk M4 hC hg5; have N5 := blk N4 hc1 hg5; obtain ⟨k5, z5⟩ := cel N5 5 _ rfl; obtain ⟨M6, N6⟩ := blk2 M5 N5 hne 5 (.string ⟨s5.toArray⟩); have hq6 := hq5.put hc1 5 (.string ⟨s5.toArray⟩); have hG6 := (hG4.up hg5).setCell (p := ⟨w1.heap.size, 5, none⟩) (.inl ((hf0.up hf1).size)) (.string ⟨s5.toArray⟩); have hu6 := (hu4.carry (keepX hX1 hg5)).carry (keepX (by simp) (fr_put x5 w1.heap.size 5 (.string ⟨s5.toArray⟩))); have hd6 := (hd4.carry (keepX hX1 hg5)).carry (keepX (by simp) (fr_put x5 w1.heap.size 5 (.string ⟨s5.toArray⟩))))
      | (go_at_call 65; refine (take_any hq6 ⟨#[104, 105, 115, 116, 111, 114, 121]⟩ kHist rfl (by decide)).mono ?_; rintro e x7 ⟨rfl, hq7, hg7⟩; obtain ⟨b7, hb7⟩ : ∃ b7, Hid (b7 = decide (tx C.L (m2 + 2) = kHist)) := ⟨_, rfl⟩; rw [← hb7.out]; have M7 := blk M6 hC hg7; have N7 := blk N6 hc1 hg7; obtain ⟨k6, z6⟩ := cel N7 6 _ rfl; obtain ⟨M8, N8⟩ := blk2 M7 N7 hne 6 (.bool b7); have hq8 := hq7.put hc1 6 (.bool b7); have hG8 := (hG6.up hg7).setCell (p := ⟨w1.heap.size, 6, none⟩) (.inl ((hf0.up hf1).size)) (.bool b7); have hu8 := (hu6.carry (keepX hX1 hg7)).carry (keepX (by simp) (fr_put x7 w1.heap.size 6 (.bool b7))); have hd8 := (hd6.carry (keepX hX1 hg7)).carry (keepX (by simp) (fr_put x7 w1.heap.size 6 (.bool b7))))
      | (go_at_call 57; refine (need_any hq8 ⟨#[59]⟩ kSemi rfl (by decide)).mono ?_; rintro e x9 h9; rcases h9.cases with ⟨f, hr9, q, rfl, hq⟩ | ⟨_, v9, hr9, rfl, ⟨rfl, hq9⟩, hg9⟩; (· exact ⟨rfl, by rw [way_tail HC.out (by rw [does, if_pos HDO.out]; exact hr2.out), tail_semi (need_ok hr4) hr5'.out, if_neg (need_bad hr9).1, ← (need_bad hr9).2]; exact Thrown.up hG8 ⟨q, rfl, hq⟩⟩); have M9 := blk M8 hC hg9; have N9 := blk N8 hc1 hg9; have hG9 := hG8.up hg9; have hu9 := hu8.carry (keepX hX1 hg9); have hd9 := hd8.carry (keepX hX1 hg9))
      | (refine wpList_load_eq rfl 180 (.tmp 5) rfl ⟨w1.heap.size, 0, none⟩ rfl (.agg (Y82 kind 1 b1 (.pointer none) (.slice ao2 l2.length cap2) ⟨s5.toArray⟩ b7)) (load82 rfl N9) ?_)
      | (refine wpList_store_row rfl 180 (.tmp 4) (.tmp 35) rfl w.heap.size (Y82 kind 1 b1 (.pointer none) (.slice ao2 l2.length cap2) ⟨s5.toArray⟩ b7) rfl rfl 180 _ M9 Tryz.size180 rfl (seven_one _ _ _ _ _ _ _ _ _) ?_))
    refine bodyPost_ret (results151 _ _ w.heap.size (Y82 kind 1 b1 (.pointer none) (.slice ao2 l2.length cap2) ⟨s5.toArray⟩ b7) rfl rfl (setRow_heap _ _ _ _ _ _ M9)) rfl ?_
    rw [way_tail HC.out (by rw [does, if_pos HDO.out]; exact hr2.out), tail_semi (need_ok hr4) hr5'.out, if_pos (need_ok hr9)]
    have hsz := (hf0.up hf1).size
    have kR : Keep (Ge (w1.heap.size + 1)) (Ge (w1.heap.size + 1)) x9 (x9.setRow w.heap.size (Y82 kind 1 b1 (.pointer none) (.slice ao2 l2.length cap2) ⟨s5.toArray⟩ b7)) := keepX (by simp; omega) (fr_row x9 w.heap.size (Y82 kind 1 b1 (.pointer none) (.slice ao2 l2.length cap2) ⟨s5.toArray⟩ b7))
    exact ⟨_, rfl, ⟨⟨(.pointer none), (.slice ao2 l2.length cap2), by rw [wayA, ← hb1.out, ← hb7.out]; rfl, (hu9.carry kR).ge (by omega), (hd9.carry kR).ge (by omega)⟩, hq9.row hC _⟩, hG9.row (.inl (Nat.le_refl _)) _⟩
  ·
    have HDO : Hid _ := hdo
    go_wp2_with (first
      | (go_at_call 65; clear T4; refine (take_no hpD ⟨#[100, 111]⟩ hdo).mono ?_; rintro e x3 ⟨rfl, hq3, hg3⟩; have M3 := blk HD hC hg3.wide; have N3 := blk KD hc1 hg3.wide; have hG3 := hFD.up hg3.wide; have hu3 := hvD.carry (keepX (X := []) (by simp) hg3); have hd3 : IsSets (Ge (w1.heap.size + 1)) x3 [] (.slice none 0 0) := isSets_nil _ _; have hs1 := hg3.size)
      | (go_at_call 57; clear T5; refine (need_any hq3 ⟨#[45, 45, 62]⟩ kArrow rfl (by decide)).mono ?_; rintro e x4 h4; rcases h4.cases with ⟨f, hr4, q, rfl, hq⟩ | ⟨_, v4, hr4, rfl, ⟨rfl, hq4⟩, hg4⟩; (· exact ⟨rfl, by rw [way_tail HC.out (by rw [does, if_neg HDO.out]), tail_arrow (need_bad hr4).1, ← (need_bad hr4).2]; exact Thrown.up hG3 ⟨q, rfl, hq⟩⟩); have M4 := blk M3 hC hg4; have N4 := blk N3 hc1 hg4; have hG4 := hG3.up hg4; have hu4 := hu3.carry (keepX hX1 hg4); have hd4 := hd3.carry (keepX hX1 hg4))
      | (go_at_call 58; refine (name_any hq4).mono ?_; rintro e x5 h5; rcases h5.cases with ⟨f, hr5', q, rfl, hq⟩ | ⟨s5, v5', hr5', rfl, ⟨rfl, hq5⟩, hg5⟩; (· exact ⟨rfl, by rw [way_tail HC.out (by rw [does, if_neg HDO.out]), tail_name (need_ok hr4) hr5'.out]; exact Thrown.up hG4 ⟨q, rfl, hq⟩⟩); rw [sv]; have M5 := blk M4 hC hg5; have N5 := blk N4 hc1 hg5; obtain ⟨k5, z5⟩ := cel N5 5 _ rfl; obtain ⟨M6, N6⟩ := blk2 M5 N5 hne 5 (.string ⟨s5.toArray⟩); have hq6 := hq5.put hc1 5 (.string ⟨s5.toArray⟩); have hG6 := (hG4.up hg5).setCell (p := ⟨w1.heap.size, 5, none⟩) (.inl ((hf0.up hf1).size)) (.string ⟨s5.toArray⟩); have hu6 := (hu4.carry (keepX hX1 hg5)).carry (keepX (by simp) (fr_put x5 w1.heap.size 5 (.string ⟨s5.toArray⟩))); have hd6 := (hd4.carry (keepX hX1 hg5)).carry (keepX (by simp) (fr_put x5 w1.heap.size 5 (.string ⟨s5.toArray⟩))))
      | (go_at_call 65; refine (take_any hq6 ⟨#[104, 105, 115, 116, 111, 114, 121]⟩ kHist rfl (by decide)).mono ?_; rintro e x7 ⟨rfl, hq7, hg7⟩; obtain ⟨b7, hb7⟩ : ∃ b7, Hid (b7 = decide (tx C.L ((opt C.L kImm i) + 2) = kHist)) := ⟨_, rfl⟩; rw [← hb7.out]; have M7 := blk M6 hC hg7; have N7 := blk N6 hc1 hg7; obtain ⟨k6, z6⟩ := cel N7 6 _ rfl; obtain ⟨M8, N8⟩ := blk2 M7 N7 hne 6 (.bool b7); have hq8 := hq7.put hc1 6 (.bool b7); have hG8 := (hG6.up hg7).setCell (p := ⟨w1.heap.size, 6, none⟩) (.inl ((hf0.up hf1).size)) (.bool b7); have hu8 := (hu6.carry (keepX hX1 hg7)).carry (keepX (by simp) (fr_put x7 w1.heap.size 6 (.bool b7))); have hd8 := (hd6.carry (keepX hX1 hg7)).carry (keepX (by simp) (fr_put x7 w1.heap.size 6 (.bool b7))))
      | (go_at_call 57; refine (need_any hq8 ⟨#[59]⟩ kSemi rfl (by decide)).mono ?_; rintro e x9 h9; rcases h9.cases with ⟨f, hr9, q, rfl, hq⟩ | ⟨_, v9, hr9, rfl, ⟨rfl, hq9⟩, hg9⟩; (· exact ⟨rfl, by rw [way_tail HC.out (by rw [does, if_neg HDO.out]), tail_semi (need_ok hr4) hr5'.out, if_neg (need_bad hr9).1, ← (need_bad hr9).2]; exact Thrown.up hG8 ⟨q, rfl, hq⟩⟩); have M9 := blk M8 hC hg9; have N9 := blk N8 hc1 hg9; have hG9 := hG8.up hg9; have hu9 := hu8.carry (keepX hX1 hg9); have hd9 := hd8.carry (keepX hX1 hg9))
      | (refine wpList_load_eq rfl 180 (.tmp 5) rfl ⟨w1.heap.size, 0, none⟩ rfl (.agg (Y82 kind 1 b1 (.pointer none) (.slice none 0 0) ⟨s5.toArray⟩ b7)) (load82 rfl N9) ?_)
      | (refine wpList_store_row rfl 180 (.tmp 4) (.tmp 35) rfl w.heap.size (Y82 kind 1 b1 (.pointer none) (.slice none 0 0) ⟨s5.toArray⟩ b7) rfl rfl 180 _ M9 Tryz.size180 rfl (seven_one _ _ _ _ _ _ _ _ _) ?_))
    refine bodyPost_ret (results151 _ _ w.heap.size (Y82 kind 1 b1 (.pointer none) (.slice none 0 0) ⟨s5.toArray⟩ b7) rfl rfl (setRow_heap _ _ _ _ _ _ M9)) rfl ?_
    rw [way_tail HC.out (by rw [does, if_neg HDO.out]), tail_semi (need_ok hr4) hr5'.out, if_pos (need_ok hr9)]
    have hsz := (hf0.up hf1).size
    have kR : Keep (Ge (w1.heap.size + 1)) (Ge (w1.heap.size + 1)) x9 (x9.setRow w.heap.size (Y82 kind 1 b1 (.pointer none) (.slice none 0 0) ⟨s5.toArray⟩ b7)) := keepX (by simp; omega) (fr_row x9 w.heap.size (Y82 kind 1 b1 (.pointer none) (.slice none 0 0) ⟨s5.toArray⟩ b7))
    exact ⟨_, rfl, ⟨⟨(.pointer none), (.slice none 0 0), by rw [wayA, ← hb1.out, ← hb7.out]; rfl, (hu9.carry kR).ge (by omega), (hd9.carry kR).ge (by omega)⟩, hq9.row hC _⟩, hG9.row (.inl (Nat.le_refl _)) _⟩

set_option maxRecDepth 100000 in
set_option maxHeartbeats 8000000 in
theorem way_if {C : Ctx} {w : World} {i st ins : Nat} (h : PS C w i st ins 0) (kind : Nat) (hif : tx C.L (opt C.L kImm i) = kIf) (hco : tx C.L (opt C.L kImm i + 1) ≠ kCount) : Calls Tryz.prog 135 #[.pointer (some ⟨C.rb, 0, none⟩), .int .i64 kind] w (Out C (OkW C w st ins) w (way C.L kind i)) := by
  have hC := h.lts.1
  obtain ⟨hp0, hf0⟩ := h.alloc (.cells Z82 180)
  have H0 : (w.alloc (.cells Z82 180)).heap[w.heap.size]? = some (.cells Z82 180 (0, 0)) := heap_alloc_new _ _
  have HA1 : ∀ f, Hid (expr C.L (opt C.L kImm i + 1) = .error f) → Hid (cond C.L (opt C.L kImm i) = .error f) := fun f hr => by rw [Hid, Px.cond, if_pos hif, if_neg hco, hr.out]
  have HA2 : ∀ e j, Hid (expr C.L (opt C.L kImm i + 1) = .ok (e, j)) → Hid (cond C.L (opt C.L kImm i) = .ok (1, e, j)) := fun e j hr => by rw [Hid, Px.cond, if_pos hif, if_neg hco, hr.out]
  have HIF : Hid _ := hif
  have HCO : Hid _ := hco
  clear hif hco
  have T1 : Hid True := trivial
  have T2 : Hid True := trivial
  have T3 : Hid True := trivial
  have T4 : Hid True := trivial
  have T5 : Hid True := trivial
  go_enter Tryz.func135, Tryz.ntmps135
  go_wp2_with (first
    | (go_at_call 65; clear T1; refine (take_any hp0 ⟨#[105, 109, 109, 101, 100, 105, 97, 116, 101]⟩ kImm rfl (by decide)).mono ?_; rintro e w1 ⟨rfl, hp1, hf1⟩; obtain ⟨b1, hb1⟩ : ∃ b1, Hid (b1 = decide (tx C.L i = kImm)) := ⟨_, rfl⟩; rw [← hb1.out]; have H1 := blk H0 hC hf1; obtain ⟨hp2, hf2⟩ := hp1.alloc (.cells (Y82 kind 1 b1 (.pointer none) (.slice none 0 0) ⟨#[]⟩ false) 180); have H2 := blk H1 hC hf2; have hc1 := hp1.lts.1; have hne : w.heap.size ≠ w1.heap.size := (by (have := hf1.size; simp at this; omega)); have K2 : (w1.alloc (.cells (Y82 kind 1 b1 (.pointer none) (.slice none 0 0) ⟨#[]⟩ false) 180)).heap[w1.heap.size]? = some (.cells (Y82 kind 1 b1 (.pointer none) (.slice none 0 0) ⟨#[]⟩ false) 180 (0, 0)) := heap_alloc_new _ _; have hF2 := (hf0.up hf1).up hf2)
    | (go_at_call 65; clear T2; refine (take_yes hp2 ⟨#[105, 102]⟩ HIF.out (by decide)).mono ?_; rintro e w3 ⟨rfl, hp3, hf3⟩; have H3 := blk H2 hC hf3; have K3 := blk K2 hc1 hf3; have hF3 := hF2.up hf3; have hs3 := hf3.size)
    | (go_at_call 65; clear T3; refine (take_no hp3 ⟨#[99, 111, 117, 110, 116]⟩ HCO.out).mono ?_; rintro e w4 ⟨rfl, hp4, hf4⟩; have H4 := blk H3 hC hf4.wide; have K4 := blk K3 hc1 hf4.wide; have hF4 := hF3.up hf4.wide; have hs4 := hf4.size)
    | (go_at_call 137; refine (expr_any hp4).mono ?_; rintro e w7 h7; rcases h7.cases with ⟨f, hr7, q, rfl, hq⟩ | ⟨⟨e7, j7⟩, v7, hr7, rfl, ⟨hv7, hp7⟩, hf7⟩; (· exact ⟨rfl, by rw [way_err1 (HA1 _ hr7).out]; exact Thrown.up hF4 ⟨q, rfl, hq⟩⟩); obtain ⟨p7, rfl⟩ := hv7.ptr; have H7 := blk H4 hC hf7; have K7 := blk K4 hc1 hf7; obtain ⟨k2, z2⟩ := cel K7 2 _ rfl; obtain ⟨HD, KD⟩ := blk2 H7 K7 hne 2 (.pointer p7); have hpD := hp7.put hc1 2 (.pointer p7); have hFD := (hF4.up hf7).setCell (p := ⟨w1.heap.size, 2, none⟩) (.inl ((hf0.up hf1).size)) (.pointer p7); have hv8 := hv7.ge (n := w1.heap.size + 1) (lt_of_block K4); have hvD := hv8.carry (keepX (by simp) (fr_put w7 w1.heap.size 2 (.pointer p7)))))
  have HC := HA2 _ _ hr7
  have hX1 : ∀ x ∈ [C.rb], x < w1.heap.size + 1 := by simp; omega
  by_cases hdo : tx C.L j7 = kDo
  ·
    have HDO : Hid _ := hdo
    go_wp2_with (first
      | (go_at_call 65; clear T4; refine (take_yes hpD ⟨#[100, 111]⟩ hdo (by decide)).mono ?_; rintro e x1 ⟨rfl, hq1, hg1⟩; have M1 := blk HD hC hg1; have N1 := blk KD hc1 hg1; have hG1 := hFD.up hg1; have hu1 := hvD.carry (keepX hX1 hg1); have hs1 := hg1.size)
      | (go_at_call 136; refine (sets_any hq1).mono ?_; rintro e x2 h2; rcases h2.cases with ⟨f, hr2, q, rfl, hq⟩ | ⟨⟨l2, m2⟩, v2, hr2, rfl, ⟨⟨xs2, hS2⟩, -, hq2⟩, hg2⟩; (· exact ⟨rfl, by rw [way_err2 HC.out (by rw [does, if_pos HDO.out]; exact hr2.out)]; exact Thrown.up hG1 ⟨q, rfl, hq⟩⟩); obtain ⟨ao2, cap2, rfl⟩ := owns_shape hS2.own; have M2 := blk M1 hC hg2; have N2 := blk N1 hc1 hg2; obtain ⟨k4, z4⟩ := cel N2 4 _ rfl; obtain ⟨M3, N3⟩ := blk2 M2 N2 hne 4 (.slice ao2 l2.length cap2); have hq3 := hq2.put hc1 4 (.slice ao2 l2.length cap2); have hG3 := (hG1.up hg2).setCell (p := ⟨w1.heap.size, 4, none⟩) (.inl ((hf0.up hf1).size)) (.slice ao2 l2.length cap2); have hu3 := (hu1.carry (keepX hX1 hg2)).carry (keepX (by simp) (fr_put x2 w1.heap.size 4 (.slice ao2 l2.length cap2))); have hs2 := hg2.size; have hd3 := (hS2.done.ge (n := w1.heap.size + 1) (lt_of_block N1)).carry (keepX (by simp) (fr_put x2 w1.heap.size 4 (.slice ao2 l2.length cap2))))
      | (go_at_call 57; clear T5; refine (need_any hq3 ⟨#[45, 45, 62]⟩ kArrow rfl (by decide)).mono ?_; rintro e x4 h4; rcases h4.cases with ⟨f, hr4, q, rfl, hq⟩ | ⟨_, v4, hr4, rfl, ⟨rfl, hq4⟩, hg4⟩; (· exact ⟨rfl, by rw [way_tail HC.out (by rw [does, if_pos HDO.out]; exact hr2.out), tail_arrow (need_bad hr4).1, ← (need_bad hr4).2]; exact Thrown.up hG3 ⟨q, rfl, hq⟩⟩); have M4 := blk M3 hC hg4; have N4 := blk N3 hc1 hg4; have hG4 := hG3.up hg4; have hu4 := hu3.carry (keepX hX1 hg4); have hd4 := hd3.carry (keepX hX1 hg4))
      | (go_at_call 58; refine (name_any hq4).mono ?_; rintro e x5 h5; rcases h5.cases with ⟨f, hr5', q, rfl, hq⟩ | ⟨s5, v5', hr5', rfl, ⟨rfl, hq5⟩, hg5⟩; (· exact ⟨rfl, by rw [way_tail HC.out (by rw [does, if_pos HDO.out]; exact hr2.out), tail_name (need_ok hr4) hr5'.out]; exact Thrown.up hG4 ⟨q, rfl, hq⟩⟩); rw [sv]; have M5 := blk M4 hC hg5; have N5 := blk N4 hc1 hg5; obtain ⟨k5, z5⟩ := cel N5 5 _ rfl; obtain ⟨M6, N6⟩ := blk2 M5 N5 hne 5 (.string ⟨s5.toArray⟩); have hq6 := hq5.put hc1 5 (.string ⟨s5.toArray⟩); have hG6 := (hG4.up hg5).setCell (p := ⟨w1.heap.size, 5, none⟩) (.inl ((hf0.up hf1).size)) (.string ⟨s5.toArray⟩); have hu6 := (hu4.carry (keepX hX1 hg5)).carry (keepX (by simp) (fr_put x5 w1.heap.size 5 (.string ⟨s5.toArray⟩))); have hd6 := (hd4.carry (keepX hX1 hg5)).carry (keepX (by simp) (fr_put x5 w1.heap.size 5 (.string ⟨s5.toArray⟩))))
      | (go_at_call 65; refine (take_any hq6 ⟨#[104, 105, 115, 116, 111, 114, 121]⟩ kHist rfl (by decide)).mono ?_; rintro e x7 ⟨rfl, hq7, hg7⟩; obtain ⟨b7, hb7⟩ : ∃ b7, Hid (b7 = decide (tx C.L (m2 + 2) = kHist)) := ⟨_, rfl⟩; rw [← hb7.out]; have M7 := blk M6 hC hg7; have N7 := blk N6 hc1 hg7; obtain ⟨k6, z6⟩ := cel N7 6 _ rfl; obtain ⟨M8, N8⟩ := blk2 M7 N7 hne 6 (.bool b7); have hq8 := hq7.put hc1 6 (.bool b7); have hG8 := (hG6.up hg7).setCell (p := ⟨w1.heap.size, 6, none⟩) (.inl ((hf0.up hf1).size)) (.bool b7); have hu8 := (hu6.carry (keepX hX1 hg7)).carry (keepX (by simp) (fr_put x7 w1.heap.size 6 (.bool b7))); have hd8 := (hd6.carry (keepX hX1 hg7)).carry (keepX (by simp) (fr_put x7 w1.heap.size 6 (.bool b7))))
      | (go_at_call 57; refine (need_any hq8 ⟨#[59]⟩ kSemi rfl (by decide)).mono ?_; rintro e x9 h9; rcases h9.cases with ⟨f, hr9, q, rfl, hq⟩ | ⟨_, v9, hr9, rfl, ⟨rfl, hq9⟩, hg9⟩; (· exact ⟨rfl, by rw [way_tail HC.out (by rw [does, if_pos HDO.out]; exact hr2.out), tail_semi (need_ok hr4) hr5'.out, if_neg (need_bad hr9).1, ← (need_bad hr9).2]; exact Thrown.up hG8 ⟨q, rfl, hq⟩⟩); have M9 := blk M8 hC hg9; have N9 := blk N8 hc1 hg9; have hG9 := hG8.up hg9; have hu9 := hu8.carry (keepX hX1 hg9); have hd9 := hd8.carry (keepX hX1 hg9))
      | (refine wpList_load_eq rfl 180 (.tmp 5) rfl ⟨w1.heap.size, 0, none⟩ rfl (.agg (Y82 kind 1 b1 (.pointer p7) (.slice ao2 l2.length cap2) ⟨s5.toArray⟩ b7)) (load82 rfl N9) ?_)
      | (refine wpList_store_row rfl 180 (.tmp 4) (.tmp 35) rfl w.heap.size (Y82 kind 1 b1 (.pointer p7) (.slice ao2 l2.length cap2) ⟨s5.toArray⟩ b7) rfl rfl 180 _ M9 Tryz.size180 rfl (seven_one _ _ _ _ _ _ _ _ _) ?_))
    refine bodyPost_ret (results151 _ _ w.heap.size (Y82 kind 1 b1 (.pointer p7) (.slice ao2 l2.length cap2) ⟨s5.toArray⟩ b7) rfl rfl (setRow_heap _ _ _ _ _ _ M9)) rfl ?_
    rw [way_tail HC.out (by rw [does, if_pos HDO.out]; exact hr2.out), tail_semi (need_ok hr4) hr5'.out, if_pos (need_ok hr9)]
    have hsz := (hf0.up hf1).size
    have kR : Keep (Ge (w1.heap.size + 1)) (Ge (w1.heap.size + 1)) x9 (x9.setRow w.heap.size (Y82 kind 1 b1 (.pointer p7) (.slice ao2 l2.length cap2) ⟨s5.toArray⟩ b7)) := keepX (by simp; omega) (fr_row x9 w.heap.size (Y82 kind 1 b1 (.pointer p7) (.slice ao2 l2.length cap2) ⟨s5.toArray⟩ b7))
    exact ⟨_, rfl, ⟨⟨(.pointer p7), (.slice ao2 l2.length cap2), by rw [wayA, ← hb1.out, ← hb7.out]; rfl, (hu9.carry kR).ge (by omega), (hd9.carry kR).ge (by omega)⟩, hq9.row hC _⟩, hG9.row (.inl (Nat.le_refl _)) _⟩
  ·
    have HDO : Hid _ := hdo
    go_wp2_with (first
      | (go_at_call 65; clear T4; refine (take_no hpD ⟨#[100, 111]⟩ hdo).mono ?_; rintro e x3 ⟨rfl, hq3, hg3⟩; have M3 := blk HD hC hg3.wide; have N3 := blk KD hc1 hg3.wide; have hG3 := hFD.up hg3.wide; have hu3 := hvD.carry (keepX (X := []) (by simp) hg3); have hd3 : IsSets (Ge (w1.heap.size + 1)) x3 [] (.slice none 0 0) := isSets_nil _ _; have hs1 := hg3.size)
      | (go_at_call 57; clear T5; refine (need_any hq3 ⟨#[45, 45, 62]⟩ kArrow rfl (by decide)).mono ?_; rintro e x4 h4; rcases h4.cases with ⟨f, hr4, q, rfl, hq⟩ | ⟨_, v4, hr4, rfl, ⟨rfl, hq4⟩, hg4⟩; (· exact ⟨rfl, by rw [way_tail HC.out (by rw [does, if_neg HDO.out]), tail_arrow (need_bad hr4).1, ← (need_bad hr4).2]; exact Thrown.up hG3 ⟨q, rfl, hq⟩⟩); have M4 := blk M3 hC hg4; have N4 := blk N3 hc1 hg4; have hG4 := hG3.up hg4; have hu4 := hu3.carry (keepX hX1 hg4); have hd4 := hd3.carry (keepX hX1 hg4))
      | (go_at_call 58; refine (name_any hq4).mono ?_; rintro e x5 h5; rcases h5.cases with ⟨f, hr5', q, rfl, hq⟩ | ⟨s5, v5', hr5', rfl, ⟨rfl, hq5⟩, hg5⟩; (· exact ⟨rfl, by rw [way_tail HC.out (by rw [does, if_neg HDO.out]), tail_name (need_ok hr4) hr5'.out]; exact Thrown.up hG4 ⟨q, rfl, hq⟩⟩); rw [sv]; have M5 := blk M4 hC hg5; have N5 := blk N4 hc1 hg5; obtain ⟨k5, z5⟩ := cel N5 5 _ rfl; obtain ⟨M6, N6⟩ := blk2 M5 N5 hne 5 (.string ⟨s5.toArray⟩); have hq6 := hq5.put hc1 5 (.string ⟨s5.toArray⟩); have hG6 := (hG4.up hg5).setCell (p := ⟨w1.heap.size, 5, none⟩) (.inl ((hf0.up hf1).size)) (.string ⟨s5.toArray⟩); have hu6 := (hu4.carry (keepX hX1 hg5)).carry (keepX (by simp) (fr_put x5 w1.heap.size 5 (.string ⟨s5.toArray⟩))); have hd6 := (hd4.carry (keepX hX1 hg5)).carry (keepX (by simp) (fr_put x5 w1.heap.size 5 (.string ⟨s5.toArray⟩))))
      | (go_at_call 65; refine (take_any hq6 ⟨#[104, 105, 115, 116, 111, 114, 121]⟩ kHist rfl (by decide)).mono ?_; rintro e x7 ⟨rfl, hq7, hg7⟩; obtain ⟨b7, hb7⟩ : ∃ b7, Hid (b7 = decide (tx C.L (j7 + 2) = kHist)) := ⟨_, rfl⟩; rw [← hb7.out]; have M7 := blk M6 hC hg7; have N7 := blk N6 hc1 hg7; obtain ⟨k6, z6⟩ := cel N7 6 _ rfl; obtain ⟨M8, N8⟩ := blk2 M7 N7 hne 6 (.bool b7); have hq8 := hq7.put hc1 6 (.bool b7); have hG8 := (hG6.up hg7).setCell (p := ⟨w1.heap.size, 6, none⟩) (.inl ((hf0.up hf1).size)) (.bool b7); have hu8 := (hu6.carry (keepX hX1 hg7)).carry (keepX (by simp) (fr_put x7 w1.heap.size 6 (.bool b7))); have hd8 := (hd6.carry (keepX hX1 hg7)).carry (keepX (by simp) (fr_put x7 w1.heap.size 6 (.bool b7))))
      | (go_at_call 57; refine (need_any hq8 ⟨#[59]⟩ kSemi rfl (by decide)).mono ?_; rintro e x9 h9; rcases h9.cases with ⟨f, hr9, q, rfl, hq⟩ | ⟨_, v9, hr9, rfl, ⟨rfl, hq9⟩, hg9⟩; (· exact ⟨rfl, by rw [way_tail HC.out (by rw [does, if_neg HDO.out]), tail_semi (need_ok hr4) hr5'.out, if_neg (need_bad hr9).1, ← (need_bad hr9).2]; exact Thrown.up hG8 ⟨q, rfl, hq⟩⟩); have M9 := blk M8 hC hg9; have N9 := blk N8 hc1 hg9; have hG9 := hG8.up hg9; have hu9 := hu8.carry (keepX hX1 hg9); have hd9 := hd8.carry (keepX hX1 hg9))
      | (refine wpList_load_eq rfl 180 (.tmp 5) rfl ⟨w1.heap.size, 0, none⟩ rfl (.agg (Y82 kind 1 b1 (.pointer p7) (.slice none 0 0) ⟨s5.toArray⟩ b7)) (load82 rfl N9) ?_)
      | (refine wpList_store_row rfl 180 (.tmp 4) (.tmp 35) rfl w.heap.size (Y82 kind 1 b1 (.pointer p7) (.slice none 0 0) ⟨s5.toArray⟩ b7) rfl rfl 180 _ M9 Tryz.size180 rfl (seven_one _ _ _ _ _ _ _ _ _) ?_))
    refine bodyPost_ret (results151 _ _ w.heap.size (Y82 kind 1 b1 (.pointer p7) (.slice none 0 0) ⟨s5.toArray⟩ b7) rfl rfl (setRow_heap _ _ _ _ _ _ M9)) rfl ?_
    rw [way_tail HC.out (by rw [does, if_neg HDO.out]), tail_semi (need_ok hr4) hr5'.out, if_pos (need_ok hr9)]
    have hsz := (hf0.up hf1).size
    have kR : Keep (Ge (w1.heap.size + 1)) (Ge (w1.heap.size + 1)) x9 (x9.setRow w.heap.size (Y82 kind 1 b1 (.pointer p7) (.slice none 0 0) ⟨s5.toArray⟩ b7)) := keepX (by simp; omega) (fr_row x9 w.heap.size (Y82 kind 1 b1 (.pointer p7) (.slice none 0 0) ⟨s5.toArray⟩ b7))
    exact ⟨_, rfl, ⟨⟨(.pointer p7), (.slice none 0 0), by rw [wayA, ← hb1.out, ← hb7.out]; rfl, (hu9.carry kR).ge (by omega), (hd9.carry kR).ge (by omega)⟩, hq9.row hC _⟩, hG9.row (.inl (Nat.le_refl _)) _⟩

set_option maxRecDepth 100000 in
set_option maxHeartbeats 8000000 in
theorem way_count {C : Ctx} {w : World} {i st ins : Nat} (h : PS C w i st ins 0) (kind : Nat) (hif : tx C.L (opt C.L kImm i) = kIf) (hco : tx C.L (opt C.L kImm i + 1) = kCount) : Calls Tryz.prog 135 #[.pointer (some ⟨C.rb, 0, none⟩), .int .i64 kind] w (Out C (OkW C w st ins) w (way C.L kind i)) := by
  have hC := h.lts.1
  obtain ⟨hp0, hf0⟩ := h.alloc (.cells Z82 180)
  have H0 : (w.alloc (.cells Z82 180)).heap[w.heap.size]? = some (.cells Z82 180 (0, 0)) := heap_alloc_new _ _
  have HA1 : ∀ f, Hid (times C.L (opt C.L kImm i + 2) = .error f) → Hid (cond C.L (opt C.L kImm i) = .error f) := fun f hr => by rw [Hid, Px.cond, if_pos hif, if_pos hco, hr.out]
  have HA3 : ∀ n f, Hid (times C.L (opt C.L kImm i + 2) = .ok n) → Hid (expr C.L (opt C.L kImm i + 3) = .error f) → Hid (cond C.L (opt C.L kImm i) = .error f) := fun n f hr hr2 => by rw [Hid, Px.cond, if_pos hif, if_pos hco, hr.out]; simp only; rw [hr2.out]
  have HA2 : ∀ n e j, Hid (times C.L (opt C.L kImm i + 2) = .ok n) → Hid (expr C.L (opt C.L kImm i + 3) = .ok (e, j)) → Hid (cond C.L (opt C.L kImm i) = .ok (n, e, j)) := fun n e j hr hr2 => by rw [Hid, Px.cond, if_pos hif, if_pos hco, hr.out]; simp only; rw [hr2.out]
  have HIF : Hid _ := hif
  have HCO : Hid _ := hco
  clear hif hco
  have T1 : Hid True := trivial
  have T2 : Hid True := trivial
  have T3 : Hid True := trivial
  have T4 : Hid True := trivial
  have T5 : Hid True := trivial
  go_enter Tryz.func135, Tryz.ntmps135
  go_wp2_with (first
    | (go_at_call 65; clear T1; refine (take_any hp0 ⟨#[105, 109, 109, 101, 100, 105, 97, 116, 101]⟩ kImm rfl (by decide)).mono ?_; rintro e w1 ⟨rfl, hp1, hf1⟩; obtain ⟨b1, hb1⟩ : ∃ b1, Hid (b1 = decide (tx C.L i = kImm)) := ⟨_, rfl⟩; rw [← hb1.out]; have H1 := blk H0 hC hf1; obtain ⟨hp2, hf2⟩ := hp1.alloc (.cells (Y82 kind 1 b1 (.pointer none) (.slice none 0 0) ⟨#[]⟩ false) 180); have H2 := blk H1 hC hf2; have hc1 := hp1.lts.1; have hne : w.heap.size ≠ w1.heap.size := (by (have := hf1.size; simp at this; omega)); have K2 : (w1.alloc (.cells (Y82 kind 1 b1 (.pointer none) (.slice none 0 0) ⟨#[]⟩ false) 180)).heap[w1.heap.size]? = some (.cells (Y82 kind 1 b1 (.pointer none) (.slice none 0 0) ⟨#[]⟩ false) 180 (0, 0)) := heap_alloc_new _ _; have hF2 := (hf0.up hf1).up hf2)
    | (go_at_call 65; clear T2; refine (take_yes hp2 ⟨#[105, 102]⟩ HIF.out (by decide)).mono ?_; rintro e w3 ⟨rfl, hp3, hf3⟩; have H3 := blk H2 hC hf3; have K3 := blk K2 hc1 hf3; have hF3 := hF2.up hf3; have hs3 := hf3.size)
    | (go_at_call 65; clear T3; refine (take_yes hp3 ⟨#[99, 111, 117, 110, 116]⟩ HCO.out (by decide)).mono ?_; rintro e w4 ⟨rfl, hp4, hf4⟩; have H4 := blk H3 hC hf4; have K4 := blk K3 hc1 hf4; have hF4 := hF3.up hf4; have hs4 := hf4.size)
    | (go_at_call 144; refine (times_any hp4).mono ?_; rintro e w5 h5; rcases h5.cases with ⟨f, hr5, q, rfl, hq⟩ | ⟨n5, v5, hr5, rfl, ⟨rfl, hp5⟩, hf5⟩; (· exact ⟨rfl, by rw [way_err1 (HA1 _ hr5).out]; exact Thrown.up hF4 ⟨q, rfl, hq⟩⟩); have H5 := blk H4 hC hf5; have K5 := blk K4 hc1 hf5; obtain ⟨k3, z3⟩ := cel K5 3 _ rfl; obtain ⟨H6, K6⟩ := blk2 H5 K5 hne 3 (.int .i64 n5); have hp6 := hp5.put hc1 3 (.int .i64 n5); have hF6 := (hF4.up hf5).setCell (p := ⟨w1.heap.size, 3, none⟩) (.inl ((hf0.up hf1).size)) (.int .i64 n5); have hs5 := hf5.size)
    | (go_at_call 137; refine (expr_any hp6).mono ?_; rintro e w7 h7; rcases h7.cases with ⟨f, hr7, q, rfl, hq⟩ | ⟨⟨e7, j7⟩, v7, hr7, rfl, ⟨hv7, hp7⟩, hf7⟩; (· exact ⟨rfl, by rw [way_err1 (HA3 _ _ hr5 hr7).out]; exact Thrown.up hF6 ⟨q, rfl, hq⟩⟩); obtain ⟨p7, rfl⟩ := hv7.ptr; have H7 := blk H6 hC hf7; have K7 := blk K6 hc1 hf7; obtain ⟨k2, z2⟩ := cel K7 2 _ rfl; obtain ⟨HD, KD⟩ := blk2 H7 K7 hne 2 (.pointer p7); have hpD := hp7.put hc1 2 (.pointer p7); have hFD := (hF6.up hf7).setCell (p := ⟨w1.heap.size, 2, none⟩) (.inl ((hf0.up hf1).size)) (.pointer p7); have hv8 := hv7.ge (n := w1.heap.size + 1) (lt_of_block K6); have hvD := hv8.carry (keepX (by simp) (fr_put w7 w1.heap.size 2 (.pointer p7)))))
  have HC := HA2 _ _ _ hr5 hr7
  have hX1 : ∀ x ∈ [C.rb], x < w1.heap.size + 1 := by simp; omega
  by_cases hdo : tx C.L j7 = kDo
  ·
    have HDO : Hid _ := hdo
    go_wp2_with (first
      | (go_at_call 65; clear T4; refine (take_yes hpD ⟨#[100, 111]⟩ hdo (by decide)).mono ?_; rintro e x1 ⟨rfl, hq1, hg1⟩; have M1 := blk HD hC hg1; have N1 := blk KD hc1 hg1; have hG1 := hFD.up hg1; have hu1 := hvD.carry (keepX hX1 hg1); have hs1 := hg1.size)
      | (go_at_call 136; refine (sets_any hq1).mono ?_; rintro e x2 h2; rcases h2.cases with ⟨f, hr2, q, rfl, hq⟩ | ⟨⟨l2, m2⟩, v2, hr2, rfl, ⟨⟨xs2, hS2⟩, -, hq2⟩, hg2⟩; (· exact ⟨rfl, by rw [way_err2 HC.out (by rw [does, if_pos HDO.out]; exact hr2.out)]; exact Thrown.up hG1 ⟨q, rfl, hq⟩⟩); obtain ⟨ao2, cap2, rfl⟩ := owns_shape hS2.own; have M2 := blk M1 hC hg2; have N2 := blk N1 hc1 hg2; obtain ⟨k4, z4⟩ := cel N2 4 _ rfl; obtain ⟨M3, N3⟩ := blk2 M2 N2 hne 4 (.slice ao2 l2.length cap2); have hq3 := hq2.put hc1 4 (.slice ao2 l2.length cap2); have hG3 := (hG1.up hg2).setCell (p := ⟨w1.heap.size, 4, none⟩) (.inl ((hf0.up hf1).size)) (.slice ao2 l2.length cap2); have hu3 := (hu1.carry (keepX hX1 hg2)).carry (keepX (by simp) (fr_put x2 w1.heap.size 4 (.slice ao2 l2.length cap2))); have hs2 := hg2.size; have hd3 := (hS2.done.ge (n := w1.heap.size + 1) (lt_of_block N1)).carry (keepX (by simp) (fr_put x2 w1.heap.size 4 (.slice ao2 l2.length cap2))))
      | (go_at_call 57; clear T5; refine (need_any hq3 ⟨#[45, 45, 62]⟩ kArrow rfl (by decide)).mono ?_; rintro e x4 h4; rcases h4.cases with ⟨f, hr4, q, rfl, hq⟩ | ⟨_, v4, hr4, rfl, ⟨rfl, hq4⟩, hg4⟩; (· exact ⟨rfl, by rw [way_tail HC.out (by rw [does, if_pos HDO.out]; exact hr2.out), tail_arrow (need_bad hr4).1, ← (need_bad hr4).2]; exact Thrown.up hG3 ⟨q, rfl, hq⟩⟩); have M4 := blk M3 hC hg4; have N4 := blk N3 hc1 hg4; have hG4 := hG3.up hg4; have hu4 := hu3.carry (keepX hX1 hg4); have hd4 := hd3.carry (keepX hX1 hg4))
      | (go_at_call 58; refine (name_any hq4).mono ?_; rintro e x5 h5; rcases h5.cases with ⟨f, hr5', q, rfl, hq⟩ | ⟨s5, v5', hr5', rfl, ⟨rfl, hq5⟩, hg5⟩; (· exact ⟨rfl, by rw [way_tail HC.out (by rw [does, if_pos HDO.out]; exact hr2.out), tail_name (need_ok hr4) hr5'.out]; exact Thrown.up hG4 ⟨q, rfl, hq⟩⟩); rw [sv]; have M5 := blk M4 hC hg5; have N5 := blk N4 hc1 hg5; obtain ⟨k5, z5⟩ := cel N5 5 _ rfl; obtain ⟨M6, N6⟩ := blk2 M5 N5 hne 5 (.string ⟨s5.toArray⟩); have hq6 := hq5.put hc1 5 (.string ⟨s5.toArray⟩); have hG6 := (hG4.up hg5).setCell (p := ⟨w1.heap.size, 5, none⟩) (.inl ((hf0.up hf1).size)) (.string ⟨s5.toArray⟩); have hu6 := (hu4.carry (keepX hX1 hg5)).carry (keepX (by simp) (fr_put x5 w1.heap.size 5 (.string ⟨s5.toArray⟩))); have hd6 := (hd4.carry (keepX hX1 hg5)).carry (keepX (by simp) (fr_put x5 w1.heap.size 5 (.string ⟨s5.toArray⟩))))
      | (go_at_call 65; refine (take_any hq6 ⟨#[104, 105, 115, 116, 111, 114, 121]⟩ kHist rfl (by decide)).mono ?_; rintro e x7 ⟨rfl, hq7, hg7⟩; obtain ⟨b7, hb7⟩ : ∃ b7, Hid (b7 = decide (tx C.L (m2 + 2) = kHist)) := ⟨_, rfl⟩; rw [← hb7.out]; have M7 := blk M6 hC hg7; have N7 := blk N6 hc1 hg7; obtain ⟨k6, z6⟩ := cel N7 6 _ rfl; obtain ⟨M8, N8⟩ := blk2 M7 N7 hne 6 (.bool b7); have hq8 := hq7.put hc1 6 (.bool b7); have hG8 := (hG6.up hg7).setCell (p := ⟨w1.heap.size, 6, none⟩) (.inl ((hf0.up hf1).size)) (.bool b7); have hu8 := (hu6.carry (keepX hX1 hg7)).carry (keepX (by simp) (fr_put x7 w1.heap.size 6 (.bool b7))); have hd8 := (hd6.carry (keepX hX1 hg7)).carry (keepX (by simp) (fr_put x7 w1.heap.size 6 (.bool b7))))
      | (go_at_call 57; refine (need_any hq8 ⟨#[59]⟩ kSemi rfl (by decide)).mono ?_; rintro e x9 h9; rcases h9.cases with ⟨f, hr9, q, rfl, hq⟩ | ⟨_, v9, hr9, rfl, ⟨rfl, hq9⟩, hg9⟩; (· exact ⟨rfl, by rw [way_tail HC.out (by rw [does, if_pos HDO.out]; exact hr2.out), tail_semi (need_ok hr4) hr5'.out, if_neg (need_bad hr9).1, ← (need_bad hr9).2]; exact Thrown.up hG8 ⟨q, rfl, hq⟩⟩); have M9 := blk M8 hC hg9; have N9 := blk N8 hc1 hg9; have hG9 := hG8.up hg9; have hu9 := hu8.carry (keepX hX1 hg9); have hd9 := hd8.carry (keepX hX1 hg9))
      | (refine wpList_load_eq rfl 180 (.tmp 5) rfl ⟨w1.heap.size, 0, none⟩ rfl (.agg (Y82 kind n5 b1 (.pointer p7) (.slice ao2 l2.length cap2) ⟨s5.toArray⟩ b7)) (load82 rfl N9) ?_)
      | (refine wpList_store_row rfl 180 (.tmp 4) (.tmp 35) rfl w.heap.size (Y82 kind n5 b1 (.pointer p7) (.slice ao2 l2.length cap2) ⟨s5.toArray⟩ b7) rfl rfl 180 _ M9 Tryz.size180 rfl (seven_one _ _ _ _ _ _ _ _ _) ?_))
    refine bodyPost_ret (results151 _ _ w.heap.size (Y82 kind n5 b1 (.pointer p7) (.slice ao2 l2.length cap2) ⟨s5.toArray⟩ b7) rfl rfl (setRow_heap _ _ _ _ _ _ M9)) rfl ?_
    rw [way_tail HC.out (by rw [does, if_pos HDO.out]; exact hr2.out), tail_semi (need_ok hr4) hr5'.out, if_pos (need_ok hr9)]
    have hsz := (hf0.up hf1).size
    have kR : Keep (Ge (w1.heap.size + 1)) (Ge (w1.heap.size + 1)) x9 (x9.setRow w.heap.size (Y82 kind n5 b1 (.pointer p7) (.slice ao2 l2.length cap2) ⟨s5.toArray⟩ b7)) := keepX (by simp; omega) (fr_row x9 w.heap.size (Y82 kind n5 b1 (.pointer p7) (.slice ao2 l2.length cap2) ⟨s5.toArray⟩ b7))
    exact ⟨_, rfl, ⟨⟨(.pointer p7), (.slice ao2 l2.length cap2), by rw [wayA, ← hb1.out, ← hb7.out]; rfl, (hu9.carry kR).ge (by omega), (hd9.carry kR).ge (by omega)⟩, hq9.row hC _⟩, hG9.row (.inl (Nat.le_refl _)) _⟩
  ·
    have HDO : Hid _ := hdo
    go_wp2_with (first
      | (go_at_call 65; clear T4; refine (take_no hpD ⟨#[100, 111]⟩ hdo).mono ?_; rintro e x3 ⟨rfl, hq3, hg3⟩; have M3 := blk HD hC hg3.wide; have N3 := blk KD hc1 hg3.wide; have hG3 := hFD.up hg3.wide; have hu3 := hvD.carry (keepX (X := []) (by simp) hg3); have hd3 : IsSets (Ge (w1.heap.size + 1)) x3 [] (.slice none 0 0) := isSets_nil _ _; have hs1 := hg3.size)
      | (go_at_call 57; clear T5; refine (need_any hq3 ⟨#[45, 45, 62]⟩ kArrow rfl (by decide)).mono ?_; rintro e x4 h4; rcases h4.cases with ⟨f, hr4, q, rfl, hq⟩ | ⟨_, v4, hr4, rfl, ⟨rfl, hq4⟩, hg4⟩; (· exact ⟨rfl, by rw [way_tail HC.out (by rw [does, if_neg HDO.out]), tail_arrow (need_bad hr4).1, ← (need_bad hr4).2]; exact Thrown.up hG3 ⟨q, rfl, hq⟩⟩); have M4 := blk M3 hC hg4; have N4 := blk N3 hc1 hg4; have hG4 := hG3.up hg4; have hu4 := hu3.carry (keepX hX1 hg4); have hd4 := hd3.carry (keepX hX1 hg4))
      | (go_at_call 58; refine (name_any hq4).mono ?_; rintro e x5 h5; rcases h5.cases with ⟨f, hr5', q, rfl, hq⟩ | ⟨s5, v5', hr5', rfl, ⟨rfl, hq5⟩, hg5⟩; (· exact ⟨rfl, by rw [way_tail HC.out (by rw [does, if_neg HDO.out]), tail_name (need_ok hr4) hr5'.out]; exact Thrown.up hG4 ⟨q, rfl, hq⟩⟩); rw [sv]; have M5 := blk M4 hC hg5; have N5 := blk N4 hc1 hg5; obtain ⟨k5, z5⟩ := cel N5 5 _ rfl; obtain ⟨M6, N6⟩ := blk2 M5 N5 hne 5 (.string ⟨s5.toArray⟩); have hq6 := hq5.put hc1 5 (.string ⟨s5.toArray⟩); have hG6 := (hG4.up hg5).setCell (p := ⟨w1.heap.size, 5, none⟩) (.inl ((hf0.up hf1).size)) (.string ⟨s5.toArray⟩); have hu6 := (hu4.carry (keepX hX1 hg5)).carry (keepX (by simp) (fr_put x5 w1.heap.size 5 (.string ⟨s5.toArray⟩))); have hd6 := (hd4.carry (keepX hX1 hg5)).carry (keepX (by simp) (fr_put x5 w1.heap.size 5 (.string ⟨s5.toArray⟩))))
      | (go_at_call 65; refine (take_any hq6 ⟨#[104, 105, 115, 116, 111, 114, 121]⟩ kHist rfl (by decide)).mono ?_; rintro e x7 ⟨rfl, hq7, hg7⟩; obtain ⟨b7, hb7⟩ : ∃ b7, Hid (b7 = decide (tx C.L (j7 + 2) = kHist)) := ⟨_, rfl⟩; rw [← hb7.out]; have M7 := blk M6 hC hg7; have N7 := blk N6 hc1 hg7; obtain ⟨k6, z6⟩ := cel N7 6 _ rfl; obtain ⟨M8, N8⟩ := blk2 M7 N7 hne 6 (.bool b7); have hq8 := hq7.put hc1 6 (.bool b7); have hG8 := (hG6.up hg7).setCell (p := ⟨w1.heap.size, 6, none⟩) (.inl ((hf0.up hf1).size)) (.bool b7); have hu8 := (hu6.carry (keepX hX1 hg7)).carry (keepX (by simp) (fr_put x7 w1.heap.size 6 (.bool b7))); have hd8 := (hd6.carry (keepX hX1 hg7)).carry (keepX (by simp) (fr_put x7 w1.heap.size 6 (.bool b7))))
      | (go_at_call 57; refine (need_any hq8 ⟨#[59]⟩ kSemi rfl (by decide)).mono ?_; rintro e x9 h9; rcases h9.cases with ⟨f, hr9, q, rfl, hq⟩ | ⟨_, v9, hr9, rfl, ⟨rfl, hq9⟩, hg9⟩; (· exact ⟨rfl, by rw [way_tail HC.out (by rw [does, if_neg HDO.out]), tail_semi (need_ok hr4) hr5'.out, if_neg (need_bad hr9).1, ← (need_bad hr9).2]; exact Thrown.up hG8 ⟨q, rfl, hq⟩⟩); have M9 := blk M8 hC hg9; have N9 := blk N8 hc1 hg9; have hG9 := hG8.up hg9; have hu9 := hu8.carry (keepX hX1 hg9); have hd9 := hd8.carry (keepX hX1 hg9))
      | (refine wpList_load_eq rfl 180 (.tmp 5) rfl ⟨w1.heap.size, 0, none⟩ rfl (.agg (Y82 kind n5 b1 (.pointer p7) (.slice none 0 0) ⟨s5.toArray⟩ b7)) (load82 rfl N9) ?_)
      | (refine wpList_store_row rfl 180 (.tmp 4) (.tmp 35) rfl w.heap.size (Y82 kind n5 b1 (.pointer p7) (.slice none 0 0) ⟨s5.toArray⟩ b7) rfl rfl 180 _ M9 Tryz.size180 rfl (seven_one _ _ _ _ _ _ _ _ _) ?_))
    refine bodyPost_ret (results151 _ _ w.heap.size (Y82 kind n5 b1 (.pointer p7) (.slice none 0 0) ⟨s5.toArray⟩ b7) rfl rfl (setRow_heap _ _ _ _ _ _ M9)) rfl ?_
    rw [way_tail HC.out (by rw [does, if_neg HDO.out]), tail_semi (need_ok hr4) hr5'.out, if_pos (need_ok hr9)]
    have hsz := (hf0.up hf1).size
    have kR : Keep (Ge (w1.heap.size + 1)) (Ge (w1.heap.size + 1)) x9 (x9.setRow w.heap.size (Y82 kind n5 b1 (.pointer p7) (.slice none 0 0) ⟨s5.toArray⟩ b7)) := keepX (by simp; omega) (fr_row x9 w.heap.size (Y82 kind n5 b1 (.pointer p7) (.slice none 0 0) ⟨s5.toArray⟩ b7))
    exact ⟨_, rfl, ⟨⟨(.pointer p7), (.slice none 0 0), by rw [wayA, ← hb1.out, ← hb7.out]; rfl, (hu9.carry kR).ge (by omega), (hd9.carry kR).ge (by omega)⟩, hq9.row hC _⟩, hG9.row (.inl (Nat.le_refl _)) _⟩

theorem way_any {C : Ctx} {w : World} {i st ins : Nat} (h : PS C w i st ins 0) (kind : Nat) : Calls Tryz.prog 135 #[.pointer (some ⟨C.rb, 0, none⟩), .int .i64 kind] w (Out C (OkW C w st ins) w (way C.L kind i)) := by
  by_cases hif : tx C.L (opt C.L kImm i) = kIf
  · by_cases hco : tx C.L (opt C.L kImm i + 1) = kCount
    · exact way_count h kind hif hco
    · exact way_if h kind hif hco
  · exact way_none h kind hif
end Go.Proofs.YtiihgnagjemikaaGreatDoor
/- Rows that grow beside each other, and what lies in them. -/
namespace Go.Proofs.YtiihgnagjemikaaGreatDoor
open Go.RowKit Px

/-- a row that grows: its records' type, their size, how many, the slice, the cells; what is said of them -/
structure Slot where
  t : Nat
  sz : Nat
  n : Nat
  v : Value
  xs : List Value
  P : (Nat → Prop) → World → Prop
def Nots (B : Nat) (ss : List Slot) (b : Nat) : Prop := B ≤ b ∧ ∀ s ∈ ss, s.v.ownBlock ≠ some b
structure Good (B : Nat) (w : World) (ss : List Slot) : Prop where
  own : ∀ s ∈ ss, w.ownsRow B s.t s.sz s.v s.n s.xs
  apart : ss.Pairwise (fun a b => ∀ g, a.v.ownBlock = some g → b.v.ownBlock ≠ some g)
  has : ∀ s ∈ ss, s.P (Nots B ss) w
def Carries (ss : List Slot) : Prop := ∀ s ∈ ss, ∀ (A A' : Nat → Prop) (w w' : World), Keep A A' w w' → s.P A w → s.P A' w'
theorem keepNots {B : Nat} {ss : List Slot} {X : List Nat} {w w' : World} (hX : ∀ x ∈ X, x < B) (hf : Fr w.heap.size X w w') : Keep (Nots B ss) (Nots B ss) w w' := hf.keep (fun b hb hm => by have := hX b hm; have := hb.1; omega)
theorem Good.carry {B : Nat} {ss : List Slot} {X : List Nat} {w w' : World} (h : Good B w ss) (hc : Carries ss) (hX : ∀ x ∈ X, x < B) (hf : Fr w.heap.size X w w') : Good B w' ss :=
  ⟨fun s hs => ownX (h.own s hs) hX hf, h.apart, fun s hs => hc s hs _ _ _ _ (keepNots hX hf) (h.has s hs)⟩
section
variable {B : Nat} {w w2 : World} {l1 l2 : List Slot} {s s' : Slot}
/-- what lay in the rows lies there, behind a growth of one of them -/
theorem keepGrow (hg : w.grownBy w2 s.v.ownBlock) (hat : s'.v.ownBlock = s.v.ownBlock ∨ s'.v.ownBlock = some w.heap.size) : Keep (Nots B (l1 ++ s :: l2)) (Nots B (l1 ++ s' :: l2)) w w2 := fun b hb hlt => by
  refine ⟨⟨hb.1, fun x hx => ?_⟩, hg.block b hlt (fun e => hb.2 s (by simp) e.symm)⟩
  simp only [List.mem_append, List.mem_cons] at hx
  rcases hx with hx | rfl | hx
  · exact hb.2 x (by simp [hx])
  · rcases hat with e | e
    · rw [e]; exact hb.2 s (by simp)
    · rw [e]; intro e2; injection e2 with e2; omega
  · exact hb.2 x (by simp [hx])
/-- what is new lies in no row -/
theorem keepNew {n : Nat} (h : Good B w (l1 ++ s :: l2)) (hn : ∀ x ∈ l1 ++ s :: l2, ∀ g, x.v.ownBlock = some g → g < n) (hB : B ≤ n) (hg : w.grownBy w2 s.v.ownBlock) (hat : s'.v.ownBlock = s.v.ownBlock ∨ s'.v.ownBlock = some w.heap.size) : Keep (Ge n) (Nots B (l1 ++ s' :: l2)) w w2 := fun b hb hlt => by
  have _ := h.own
  refine keepGrow hg hat b ⟨Nat.le_trans hB hb, fun x hx e => ?_⟩ hlt
  have := hn x hx b e
  simp [Ge] at hb; omega
theorem Good.grow (h : Good B w (l1 ++ s :: l2)) (hc : Carries (l1 ++ s :: l2)) (hg : w.grownBy w2 s.v.ownBlock) (hat : s'.v.ownBlock = s.v.ownBlock ∨ s'.v.ownBlock = some w.heap.size)
    (hown : w2.ownsRow B s'.t s'.sz s'.v s'.n s'.xs) (hP : s'.P (Nots B (l1 ++ s' :: l2)) w2) : Good B w2 (l1 ++ s' :: l2) := by
  have hap := List.pairwise_append.1 h.apart
  have hap2 := List.pairwise_cons.1 hap.2.1
  have hlt : ∀ x ∈ l1 ++ s :: l2, ∀ g, x.v.ownBlock = some g → g < w.heap.size := fun x hx g hg => ((h.own x hx).lt g hg).2
  have hdis : ∀ x, x ∈ l1 ∨ x ∈ l2 → ∀ g, x.v.ownBlock = some g → s.v.ownBlock ≠ some g := by
    rintro x (hx | hx) g hxg
    · exact hap.2.2 x hx s (by simp) g hxg
    · intro e; exact hap2.1 x hx g e hxg
  have hdis' : ∀ x, x ∈ l1 ∨ x ∈ l2 → ∀ g, x.v.ownBlock = some g → s'.v.ownBlock ≠ some g := by
    intro x hx g hxg
    rcases hat with e | e
    · rw [e]; exact hdis x hx g hxg
    · rw [e]; intro e2; injection e2 with e2
      have := hlt x (by rcases hx with hx | hx <;> simp [hx]) g hxg
      omega
  have kept : ∀ x, x ∈ l1 ∨ x ∈ l2 → w2.ownsRow B x.t x.sz x.v x.n x.xs := fun x hx =>
    (h.own x (by rcases hx with hx | hx <;> simp [hx])).kept hg (by
      cases hv : x.v.ownBlock with
      | none => exact .inl rfl
      | some g => exact .inr (fun e => hdis x hx g hv e.symm))
  refine ⟨fun x hx => ?_, ?_, fun x hx => ?_⟩
  · simp only [List.mem_append, List.mem_cons] at hx
    rcases hx with hx | rfl | hx
    · exact kept x (.inl hx)
    · exact hown
    · exact kept x (.inr hx)
  · refine List.pairwise_append.2 ⟨hap.1, List.pairwise_cons.2 ⟨fun x hx g hg1 hg2 => hdis' x (.inr hx) g hg2 hg1, hap2.2⟩, fun x hx y hy g hg1 => ?_⟩
    rcases List.mem_cons.1 hy with rfl | hy
    · exact hdis' x (.inl hx) g hg1
    · exact hap.2.2 x hx y (by simp [hy]) g hg1
  · simp only [List.mem_append, List.mem_cons] at hx
    rcases hx with hx | rfl | hx
    · exact hc x (by simp [hx]) _ _ _ _ (keepGrow hg hat) (h.has x (by simp [hx]))
    · exact hP
    · exact hc x (by simp [hx]) _ _ _ _ (keepGrow hg hat) (h.has x (by simp [hx]))
/-- nothing grows, something is said anew -/
theorem Good.swap (h : Good B w (l1 ++ s :: l2)) (hv : s'.v = s.v) (hown : w.ownsRow B s'.t s'.sz s'.v s'.n s'.xs) (hP : s'.P (Nots B (l1 ++ s' :: l2)) w) (hc : Carries (l1 ++ s :: l2)) : Good B w (l1 ++ s' :: l2) :=
  h.grow hc ⟨rfl, rfl, rfl, Nat.le_refl _, fun _ _ _ => rfl⟩ (.inl (by rw [hv])) hown hP
end
theorem Good.block {B : Nat} {w : World} {ss : List Slot} (h : Good B w ss) : ∀ x ∈ ss, ∀ g, x.v.ownBlock = some g → B ≤ g ∧ g < w.heap.size := fun x hx g hg => (h.own x hx).lt g hg

/-- the slots of a state -/
def sSet (l : List Asg) (v : Value) (xs : List Value) : Slot := ⟨203, 2, l.length, v, xs, fun A w => Rows (SetC A w) l xs⟩
def sWay (l : List Wy) (v : Value) (xs : List Value) : Slot := ⟨180, 7, l.length, v, xs, fun A w => Rows (WayC A w) l xs⟩
def sReg (k : Nat) (l : List (List (St k))) (v : Value) (xs : List Value) : Slot := ⟨133, 1, l.length, v, xs, fun A w => Rows (RegC (IsStates A w k)) l xs⟩
def sExp (e : E) (p : Value) : Slot := ⟨222, 1, 0, .slice none 0 0, [], fun A w => IsE A w e p⟩
def sDecl (l : List Decl) (v : Value) (xs : List Value) : Slot := ⟨86, 3, l.length, v, xs, fun _ _ => Rows DeclC l xs⟩
def sSt (k : Nat) (l : List (StF (St k))) (v : Value) (xs : List Value) : Slot := ⟨169, 9, l.length, v, xs, fun A w => Rows (StC A w (IsStates A w k)) l xs⟩
section
variable {A A' : Nat → Prop} {w w' : World}
theorem cSet (k : Keep A A' w w') (l : List Asg) (v : Value) (xs : List Value) : (sSet l v xs).P A w → (sSet l v xs).P A' w' := fun h => h.map (SetC.carry k)
theorem cWay (k : Keep A A' w w') (l : List Wy) (v : Value) (xs : List Value) : (sWay l v xs).P A w → (sWay l v xs).P A' w' := fun h => h.map (WayC.carry k)
theorem cReg (k : Keep A A' w w') (n : Nat) (l : List (List (St n))) (v : Value) (xs : List Value) : (sReg n l v xs).P A w → (sReg n l v xs).P A' w' := fun h => h.map (fun _ _ ⟨u, hc, hu⟩ => ⟨u, hc, IsStates.carry k n _ _ hu⟩)
theorem cExp (k : Keep A A' w w') (e : E) (p : Value) : (sExp e p).P A w → (sExp e p).P A' w' := fun h => h.carry k
theorem cSt (k : Keep A A' w w') (n : Nat) (l : List (StF (St n))) (v : Value) (xs : List Value) : (sSt n l v xs).P A w → (sSt n l v xs).P A' w' := fun h => h.map (StC.carry k (IsStates.carry k n))
end
def stSlots (k : Nat) (s : StF (St k)) (e d l p y r : Value) (xe xd xl xy xr : List Value) : List Slot := [sSet s.enter e xe, sSet s.during d xd, sSet s.leave l xl, sExp s.rests p, sWay s.ways y xy, sReg k s.regions r xr]
theorem stCarries (k : Nat) (s : StF (St k)) (e d l p y r : Value) (xe xd xl xy xr : List Value) : Carries (stSlots k s e d l p y r xe xd xl xy xr) := by
  intro x hx A A' w w' kp
  simp only [stSlots, List.mem_cons, List.not_mem_nil, or_false] at hx
  rcases hx with rfl | rfl | rfl | rfl | rfl | rfl
  · exact cSet kp _ _ _
  · exact cSet kp _ _ _
  · exact cSet kp _ _ _
  · exact cExp kp _ _
  · exact cWay kp _ _ _
  · exact cReg kp _ _ _ _
abbrev stA (s : Str) (fi la : Bool) (e d l p y r : Value) : Array Value := #[sv s, .bool fi, .bool la, e, d, l, p, y, r]
/-- a state that is being read: where it lies -/
structure SU (k B sb : Nat) (w : World) (s : StF (St k)) (e d l p y r : Value) (xe xd xl xy xr : List Value) : Prop where
  at_ : w.heap[sb]? = some (.cells (stA s.name s.first s.last e d l p y r) 169 (0, 0))
  good : Good B w (stSlots k s e d l p y r xe xd xl xy xr)
/-- a state that has been read -/
theorem SU.done {k B sb : Nat} {w : World} {s : StF (St k)} {e d l p y r : Value} {xe xd xl xy xr : List Value} (h : SU k B sb w s e d l p y r xe xd xl xy xr) : StC (Ge B) w (IsStates (Ge B) w k) s (stA s.name s.first s.last e d l p y r).toList := by
  have kp : Keep (Nots B (stSlots k s e d l p y r xe xd xl xy xr)) (Ge B) w w := fun b hb _ => ⟨hb.1, rfl⟩
  have o := h.good.own
  have hs := h.good.has
  have ow : ∀ x ∈ stSlots k s e d l p y r xe xd xl xy xr, Row (Ge B) w x.t x.sz x.v x.n x.xs := fun x hx => ⟨own_base0 (o x hx), fun g hg => ((o x hx).lt g hg).1⟩
  refine ⟨e, d, l, p, y, r, rfl, ⟨xe, ow (sSet s.enter e xe) (by simp [stSlots]), cSet kp _ _ _ (hs (sSet s.enter e xe) (by simp [stSlots]))⟩, ⟨xd, ow (sSet s.during d xd) (by simp [stSlots]), cSet kp _ _ _ (hs (sSet s.during d xd) (by simp [stSlots]))⟩, ⟨xl, ow (sSet s.leave l xl) (by simp [stSlots]), cSet kp _ _ _ (hs (sSet s.leave l xl) (by simp [stSlots]))⟩, cExp kp _ _ (hs (sExp s.rests p) (by simp [stSlots])), ⟨xy, ow (sWay s.ways y xy) (by simp [stSlots]), cWay kp _ _ _ (hs (sWay s.ways y xy) (by simp [stSlots]))⟩, ⟨xr, ow (sReg k s.regions r xr) (by simp [stSlots]), cReg kp _ _ _ _ (hs (sReg k s.regions r xr) (by simp [stSlots]))⟩⟩
theorem SU.carry {k B sb : Nat} {X : List Nat} {w w' : World} {s : StF (St k)} {e d l p y r : Value} {xe xd xl xy xr : List Value} (h : SU k B sb w s e d l p y r xe xd xl xy xr) (hX : ∀ x ∈ X, x < B) (hs : sb ∉ X) (hf : Fr w.heap.size X w w') : SU k B sb w' s e d l p y r xe xd xl xy xr :=
  ⟨by rw [hf.block sb (lt_of_block h.at_) hs]; exact h.at_, h.good.carry (stCarries _ _ _ _ _ _ _ _ _ _ _ _ _) hX hf⟩
end Go.Proofs.YtiihgnagjemikaaGreatDoor
