/-
  impl.exchangeEdge.
-/
import Derived.Test.YtkgnebjpcmblfaaDoorPe6
import Derived.Test.YtkgnebjpcmblfaaDoorNbI
import Derived.Test.YtkgnebjpcmblfaaDoorRowArr
namespace Go.Proofs.YtkgnebjpcmblfaaDoor
open Go.RowKit

theorem xor_flip (z : Int) (b : Nat) (h0 : 0 ≤ z) (h1 : z ≤ 9223372036854775807) (hb : b < 62) : bits .xor .i64 z (2 ^ b) = flip z b := by
  obtain ⟨k, rfl⟩ := Int.eq_ofNat_of_zero_le h0
  have hp : 2 ^ b < 2 ^ 63 := Nat.pow_lt_pow_right (by decide) (by omega)
  have hk : k < 2 ^ 63 := by omega
  have hx := Nat.xor_lt_two_pow hk hp
  have e1 : BitVec.ofInt 64 (k : Int) = BitVec.ofNat 64 k := by simp
  have e2 : BitVec.ofInt 64 ((2 ^ b : Nat) : Int) = BitVec.ofNat 64 (2 ^ b) := BitVec.ofInt_natCast _ _
  rw [show ((2 : Int) ^ b) = ((2 ^ b : Nat) : Int) by simp]
  show IntKind.i64.wrap ((BitVec.ofInt 64 (k : Int) ^^^ BitVec.ofInt 64 ((2 ^ b : Nat) : Int)).toNat : Int) = _
  rw [e1, e2, BitVec.toNat_xor, BitVec.toNat_ofNat, BitVec.toNat_ofNat, Nat.mod_eq_of_lt (by omega), Nat.mod_eq_of_lt (by omega), wrap_i64_nat _ (by omega) (by omega)]
  unfold flip; rw [Int.toNat_natCast]
theorem shr_val (z : Int) (c : Nat) (h0 : 0 ≤ z) (h1 : z ≤ 9223372036854775807) : bits .and .i64 (z / 2 ^ c) 1 = if bt z c then 1 else 0 := by
  obtain ⟨k, rfl⟩ := Int.eq_ofNat_of_zero_le h0
  have e : ((k : Int) / 2 ^ c) = ((k / 2 ^ c : Nat) : Int) := by simp
  have hk : k / 2 ^ c < 2 ^ 63 := Nat.lt_of_le_of_lt (Nat.div_le_self _ _) (by omega)
  rw [e, show (1 : Int) = ((1 : Nat) : Int) from rfl, and_i64 _ _ hk (by decide), nat_mask1]
  unfold bt
  rw [Int.toNat_natCast, ← testBit_div]
  have : k / 2 ^ c % 2 = 0 ∨ k / 2 ^ c % 2 = 1 := by omega
  rcases this with h | h <;> rw [h] <;> rfl

set_option maxHeartbeats 800000 in
theorem areDiff_any (n x y : Int) (w : World) :
    Calls Tryd.prog 89 #[.int .i64 n, .int .i64 x, .int .i64 y] w fun e w' => e = .returned (.bool (inE n x y)) ∧ w = w' := by
  have hvx := fun W => isVertex_any n x W
  have hvy := fun W => isVertex_any n y W
  by_cases hx : 0 ≤ x ∧ x ≤ n - 1
  · rw [← Bool.decide_and, decide_eq_true hx] at hvx
    by_cases hy : 0 ≤ y ∧ y ≤ n - 1
    · rw [← Bool.decide_and, decide_eq_true hy] at hvy
      by_cases hne : x = y
      · have hE : inE n x y = false := by unfold inE; simp [hne]
        rw [hE]; clear hE hvy hx hy
        subst hne
        go_enter Tryd.func89, Tryd.ntmps89
        go_wp2_with (go_at_call 55; refine (hvx _).mono ?_; rintro e w1 ⟨rfl, rfl⟩)
        go_ret
        exact ⟨rfl, rfl⟩
      · have hE : inE n x y = true := decide_eq_true ⟨hx.1, hx.2, hy.1, hy.2, hne⟩
        have hb : (x != y) = true := by simpa using hne
        rw [hE]; clear hE hx hy hne
        go_enter Tryd.func89, Tryd.ntmps89
        go_wp2_with (go_at_call 55; first | (with_reducible refine (hvx _).mono ?_; rintro e w1 ⟨rfl, rfl⟩) | (with_reducible refine (hvy _).mono ?_; rintro e w1 ⟨rfl, rfl⟩))
        go_ret
        exact ⟨rfl, rfl⟩
    · rw [← Bool.decide_and, decide_eq_false hy] at hvy
      have hE : inE n x y = false := decide_eq_false (fun h => hy ⟨h.2.2.1, h.2.2.2.1⟩)
      rw [hE]; clear hE hx hy
      go_enter Tryd.func89, Tryd.ntmps89
      go_wp2_with (go_at_call 55; first | (with_reducible refine (hvx _).mono ?_; rintro e w1 ⟨rfl, rfl⟩) | (with_reducible refine (hvy _).mono ?_; rintro e w1 ⟨rfl, rfl⟩))
      go_ret
      exact ⟨rfl, rfl⟩
  · rw [← Bool.decide_and, decide_eq_false hx] at hvx
    have hE : inE n x y = false := decide_eq_false (fun h => hx ⟨h.1, h.2.1⟩)
    rw [hE]; clear hE hvy hx
    go_enter Tryd.func89, Tryd.ntmps89
    go_wp2_with (go_at_call 55; refine (hvx _).mono ?_; rintro e w1 ⟨rfl, rfl⟩)
    go_ret
    exact ⟨rfl, rfl⟩

set_option maxHeartbeats 1600000 in
theorem exch_no (n : Int) (v : Value) (zs : List Int) (x y bf : Int) (w : World) (h : Sl w v zs) (hg : isG n zs = false) (hl : zs.length ≤ 9223372036854775807) (hT : Tab w) :
    Calls Tryd.prog 63 #[.agg #[.int .i64 n, v], .int .i64 x, .int .i64 y, .int .i64 bf] w fun e w' => GRes w.heap.size 0 [] 1 e w' ∧ Below w.heap.size w w' := by
  have D0 : Below w.heap.size w ((w.alloc (.cells #[.int .i64 n, v] 28)).alloc (.cells #[.int .i64 0, .slice none 0 0] 28)) := ((Below.refl _ _).alloc (Nat.le_refl _) _).alloc (by simp) _
  have his := implIs_any n v zs _ (h.below D0) hl (hT.belowAll D0)
  rw [hg] at his
  simp only [World.size_alloc] at his
  have HH1 := Lib.hid (heap_new_at (w.alloc (.cells #[.int .i64 n, v] 28)) (.cells #[.int .i64 0, .slice none 0 0] 28) (w.heap.size + 1) (by simp))
  clear h hg hT
  go_enter Tryd.func63, Tryd.ntmps63
  go_wp2_with (go_at_call 51; refine his.mono ?_; rintro e w1 ⟨rfl, hb1⟩; have RB := Lib.hid ((hb1.block (w.heap.size + 1) (by omega)).trans HH1.out); obtain ⟨r0, r1, g0, g1⟩ := two_cells RB.out)
  have hfin := two_set (a := .int .i64 0) (b := .slice none 0 0) RB.out
  refine bodyPost_ret (v := .tuple #[.agg #[.int .i64 0, .slice none 0 0], .int .i64 1]) (results_cell2 (p := 8) (u := 9) (ty := 28) rfl _ _ (w.heap.size + 1) 28 _ (0, 0) _ rfl hfin Tryd.underlying28 rfl (by exact info27)) rfl ⟨⟨_, rfl, Own.nil _ _⟩, ?_⟩
  exact ((D0.trans (hb1.mono (by omega))).setCell (p := ⟨w.heap.size + 1, 0, none⟩) (by simp) _).setCell (p := ⟨w.heap.size + 1, 1, none⟩) (by simp) _

set_option maxHeartbeats 1600000 in
theorem exch_out (n : Int) (b off cap : Nat) (zs : List Int) (x y bf : Int) (w : World) (hb : b < w.heap.size) (hc : Cells w b off zs) (hg : isG n zs = true) (hl : zs.length ≤ 9223372036854775807) (hT : Tab w) (hin : inE n x y = false) :
    Calls Tryd.prog 63 #[.agg #[.int .i64 n, .slice (some ⟨b, off, none⟩) zs.length cap], .int .i64 x, .int .i64 y, .int .i64 bf] w fun e w' => GRes w.heap.size 0 [] 2 e w' ∧ Below w.heap.size w w' := by
  have D0 : Below w.heap.size w ((w.alloc (.cells #[.int .i64 n, .slice (some ⟨b, off, none⟩) zs.length cap] 28)).alloc (.cells #[.int .i64 0, .slice none 0 0] 28)) := ((Below.refl _ _).alloc (Nat.le_refl _) _).alloc (by simp) _
  have his := implIs_some n b off cap zs _ (Nat.lt_of_lt_of_le hb D0.size) (hc.below D0 hb) hl (hT.belowAll D0)
  rw [hg] at his
  simp only [World.size_alloc] at his
  have had := fun W => areDiff_any n x y W
  rw [hin] at had
  have HG0 := Lib.hid (GBox.new (n := n) (cap := cap) hb hc)
  have HH1 := Lib.hid (heap_new_at (w.alloc (.cells #[.int .i64 n, .slice (some ⟨b, off, none⟩) zs.length cap] 28)) (.cells #[.int .i64 0, .slice none 0 0] 28) (w.heap.size + 1) (by simp))
  clear hc hg hT hin
  go_enter Tryd.func63, Tryd.ntmps63
  have G1 := HG0.out.below ((Below.refl (w.heap.size + 1) _).alloc (by simp) (.cells #[.int .i64 0, .slice none 0 0] 28))
  have b0 := G1.b0
  have b1 := G1.b1
  go_wp2_with (first | (go_at_call 51; refine his.mono ?_; rintro e w1 ⟨rfl, hb1⟩; have G2 := G1.below (hb1.mono (by omega)); have b0 := G2.b0; have b1 := G2.b1; have RB := Lib.hid ((hb1.block (w.heap.size + 1) (by omega)).trans HH1.out); obtain ⟨r0, r1, g0, g1⟩ := two_cells RB.out) | (go_at_call 89; refine (had _).mono ?_; rintro e w2 ⟨rfl, rfl⟩))
  have hfin := two_set (a := .int .i64 0) (b := .slice none 0 0) RB.out
  refine bodyPost_ret (v := .tuple #[.agg #[.int .i64 0, .slice none 0 0], .int .i64 2]) (results_cell2 (p := 8) (u := 9) (ty := 28) rfl _ _ (w.heap.size + 1) 28 _ (0, 0) _ rfl hfin Tryd.underlying28 rfl (by exact info27)) rfl ⟨⟨_, rfl, Own.nil _ _⟩, ?_⟩
  exact ((D0.trans (hb1.mono (by omega))).setCell (p := ⟨w.heap.size + 1, 0, none⟩) (by simp) _).setCell (p := ⟨w.heap.size + 1, 1, none⟩) (by simp) _

set_option maxHeartbeats 1600000 in
theorem exch_state (n : Int) (b off cap : Nat) (zs : List Int) (x y : Nat) (bf : Int) (w : World) (hb : b < w.heap.size) (hc : Cells w b off zs) (hg : isG n zs = true) (hl : zs.length ≤ 9223372036854775807) (hT : Tab w) (hin : inE n x y = true) (hx : x < zs.length) (hy : y < zs.length) (hbf : ((if bt (el zs x) y then 1 else 0 : Int) != bf) = true) :
    Calls Tryd.prog 63 #[.agg #[.int .i64 n, .slice (some ⟨b, off, none⟩) zs.length cap], .int .i64 x, .int .i64 y, .int .i64 bf] w fun e w' => GRes w.heap.size 0 [] 5 e w' ∧ Below w.heap.size w w' := by
  have D0 : Below w.heap.size w ((w.alloc (.cells #[.int .i64 n, .slice (some ⟨b, off, none⟩) zs.length cap] 28)).alloc (.cells #[.int .i64 0, .slice none 0 0] 28)) := ((Below.refl _ _).alloc (Nat.le_refl _) _).alloc (by simp) _
  have his := implIs_some n b off cap zs _ (Nat.lt_of_lt_of_le hb D0.size) (hc.below D0 hb) hl (hT.belowAll D0)
  rw [hg] at his
  simp only [World.size_alloc] at his
  have had := fun W => areDiff_any n x y W
  rw [hin] at had
  have hz := isG_row_ok hg x hx
  obtain ⟨_, h62, h3, _⟩ := isG_parts hg
  have hv : (bits BinOp.and .i64 (el zs x / 2 ^ y) 1 != bf) = true := by rw [shr_val _ _ hz.1 hz.2]; exact hbf
  have HG0 := Lib.hid (GBox.new (n := n) (cap := cap) hb hc)
  have HH1 := Lib.hid (heap_new_at (w.alloc (.cells #[.int .i64 n, .slice (some ⟨b, off, none⟩) zs.length cap] 28)) (.cells #[.int .i64 0, .slice none 0 0] 28) (w.heap.size + 1) (by simp))
  have hx0 : (0 : Int) ≤ x := by omega
  have hxm : (x : Int) < zs.length := by omega
  have hy0 : (0 : Int) ≤ y := by omega
  have hym : (y : Int) < 62 := by omega
  clear hc hg hT hin hbf h3
  go_enter Tryd.func63, Tryd.ntmps63
  have G1 := HG0.out.below ((Below.refl (w.heap.size + 1) _).alloc (by simp) (.cells #[.int .i64 0, .slice none 0 0] 28))
  have b0 := G1.b0
  have b1 := G1.b1
  go_wp2_with (first | (go_at_call 51; refine his.mono ?_; rintro e w1 ⟨rfl, hb1⟩; have G2 := G1.below (hb1.mono (by omega)); have b0 := G2.b0; have b1 := G2.b1; have c1 := G2.cells x hx; have RB := Lib.hid ((hb1.block (w.heap.size + 1) (by omega)).trans HH1.out); obtain ⟨r0, r1, g0, g1⟩ := two_cells RB.out) | (go_at_call 89; refine (had _).mono ?_; rintro e w2 ⟨rfl, rfl⟩))
  have hfin := two_set (a := .int .i64 0) (b := .slice none 0 0) RB.out
  refine bodyPost_ret (v := .tuple #[.agg #[.int .i64 0, .slice none 0 0], .int .i64 5]) (results_cell2 (p := 8) (u := 9) (ty := 28) rfl _ _ (w.heap.size + 1) 28 _ (0, 0) _ rfl hfin Tryd.underlying28 rfl (by exact info27)) rfl ⟨⟨_, rfl, Own.nil _ _⟩, ?_⟩
  exact ((D0.trans (hb1.mono (by omega))).setCell (p := ⟨w.heap.size + 1, 0, none⟩) (by simp) _).setCell (p := ⟨w.heap.size + 1, 1, none⟩) (by simp) _

set_option maxRecDepth 100000 in
set_option maxHeartbeats 3200000 in
theorem exch_yes (n : Int) (b off cap : Nat) (zs : List Int) (x y : Nat) (bf : Int) (w : World) (hb : b < w.heap.size) (hc : Cells w b off zs) (hg : isG n zs = true) (hl : zs.length ≤ 9223372036854775807) (hT : Tab w) (hin : inE n x y = true) (hx : x < zs.length) (hy : y < zs.length) (hxy : x ≠ y) (hbf : ((if bt (el zs x) y then 1 else 0 : Int) != bf) = false) :
    Calls Tryd.prog 63 #[.agg #[.int .i64 n, .slice (some ⟨b, off, none⟩) zs.length cap], .int .i64 x, .int .i64 y, .int .i64 bf] w fun e w' => GRes w.heap.size n (flipL zs x y) 0 e w' ∧ Below w.heap.size w w' := by
  have hz := isG_row_ok hg x hx
  have hzy := isG_row_ok hg y hy
  obtain ⟨_, h62, h3, _⟩ := isG_parts hg
  subst h3
  have D0 : Below w.heap.size w ((w.alloc (.cells #[.int .i64 zs.length, .slice (some ⟨b, off, none⟩) zs.length cap] 28)).alloc (.cells #[.int .i64 0, .slice none 0 0] 28)) := ((Below.refl _ _).alloc (Nat.le_refl _) _).alloc (by simp) _
  have his := implIs_some zs.length b off cap zs _ (Nat.lt_of_lt_of_le hb D0.size) (hc.below D0 hb) hl (hT.belowAll D0)
  rw [hg] at his
  simp only [World.size_alloc] at his
  have had := fun W => areDiff_any (zs.length : Int) x y W
  rw [hin] at had
  have hemp := fun W => implEmpty_any zs.length W (by omega)
  have hv : (bits BinOp.and .i64 (el zs x / 2 ^ y) 1 != bf) = false := by rw [shr_val _ _ hz.1 hz.2]; exact hbf
  have HG0 := Lib.hid (GBox.new (n := zs.length) (cap := cap) hb hc)
  have HH1 := Lib.hid (heap_new_at (w.alloc (.cells #[.int .i64 zs.length, .slice (some ⟨b, off, none⟩) zs.length cap] 28)) (.cells #[.int .i64 0, .slice none 0 0] 28) (w.heap.size + 1) (by simp))
  have P1 := Lib.hid (xor_flip (el zs x) y hz.1 hz.2 (by omega))
  have P2 := Lib.hid (xor_flip (el zs y) x hzy.1 hzy.2 (by omega))
  have HZ := Lib.hid hz; have HZY := Lib.hid hzy
  have HNE := Lib.hid hxy
  have W1 := Lib.hid (i64_pow (y : Int) (by omega))
  rw [Int.toNat_natCast] at W1
  have hx0 : (0 : Int) ≤ x := by omega
  have hxm : (x : Int) < zs.length := by omega
  have hy0 : (0 : Int) ≤ y := by omega
  have hym : (y : Int) < zs.length := by omega
  have hl62 : zs.length ≤ 62 := by omega
  have qx := pow_bounds x (by omega)
  have qy := pow_bounds y (by omega)
  clear hc hg hT hin hbf hz hzy hxy
  go_enter Tryd.func63, Tryd.ntmps63
  have G1 := HG0.out.below ((Below.refl (w.heap.size + 1) _).alloc (by simp) (.cells #[.int .i64 0, .slice none 0 0] 28))
  have b0 := G1.b0
  have b1 := G1.b1
  go_wp2_with (first | (go_at_call 51; refine his.mono ?_; rintro e w1 ⟨rfl, hb1⟩; have G2 := G1.below (hb1.mono (by omega)); have b0 := G2.b0; have b1 := G2.b1; have c1 := G2.cells x hx) | (go_at_call 89; refine (had _).mono ?_; rintro e w2 ⟨rfl, rfl⟩))
  refine (hemp w1).mono ?_
  rintro e w2 ⟨rfl, hB2, hb2⟩
  have s1 : w.heap.size + 1 + 1 ≤ w1.heap.size := by have := hb1.size; simpa using this
  have s2 := hB2.lt
  have R2 := Lib.hid ((hb2.block (w.heap.size + 1) (by omega)).trans ((hb1.block (w.heap.size + 1) (by omega)).trans HH1.out))
  have D2 := D0.trans ((hb1.mono (by omega)).trans (hb2.mono (by omega)))
  have G3 := G2.below (hb2.mono (by omega))
  have G4 := G3.below ((Below.refl (w.heap.size + 1) w2).alloc (by omega) (.cells #[.int .i64 zs.length, .slice (some ⟨w1.heap.size + 1, 0, none⟩) zs.length zs.length] 28))
  have b0 := G4.b0
  have b1 := G4.b1
  have HB2 := Lib.hid (hB2.alloc (.cells #[.int .i64 zs.length, .slice (some ⟨w1.heap.size + 1, 0, none⟩) zs.length zs.length] 28))
  have HG4 := Lib.hid G4
  clear hv hb1 hb2 hB2 his had hemp G2 G3 G4 c1
  go_wp2_with (refine wpList_copy_own rfl (.tmp 37) (.tmp 39) 22 22 rfl 2 Tryd.underlying22 size2 (w1.heap.size + 1) 0 zs.length zs.length ⟨b, off, none⟩ zs.length cap rfl rfl (intsA (List.replicate zs.length 0)) 2 HB2.out (zs.map (Value.int .i64)) (by simp) ?hsrc (by simp [intsA]) ?h1 ?_)
  case hsrc =>
    intro j u hj
    have hjz : j < zs.length := by
      have := (List.getElem?_eq_some_iff.1 hj).1
      simpa using this
    rw [map_at zs j hjz] at hj
    cases hj
    have hadd : (⟨b, off, none⟩ : Addr).add j = ⟨b, off + j, none⟩ := by unfold Addr.add; split <;> simp_all
    rw [hadd]
    exact HG4.out.cells j hjz
  case h1 => intro u hu; simp at hu; obtain ⟨y, _, rfl⟩ := hu; rfl
  obtain ⟨w3', h3'⟩ : ∃ w3', w3' = w2.alloc (.cells #[.int .i64 zs.length, .slice (some ⟨w1.heap.size + 1, 0, none⟩) zs.length zs.length] 28) := ⟨_, rfl⟩
  have X3' : Hid (w3'.heap[w2.heap.size]? = some (.cells #[.int .i64 zs.length, .slice (some ⟨w1.heap.size + 1, 0, none⟩) zs.length zs.length] 28 (0, 0))) := by rw [h3']; exact World.alloc_heap_new w2 _
  have hb3 : Below w2.heap.size w2 w3' := by rw [h3']; exact (Below.refl _ _).alloc (Nat.le_refl _) _
  rw [← h3'] at HB2 ⊢
  have s3 : w2.heap.size < w3'.heap.size := (Array.getElem?_eq_some_iff.1 X3'.out).1
  have R3' := Lib.hid ((hb3.block (w.heap.size + 1) (by omega)).trans R2.out)
  have D3' := D2.trans (hb3.mono (by omega))
  have hrow : (List.take 0 (intsA (List.replicate zs.length 0)).toList ++ (zs.map (Value.int .i64) ++ List.drop (0 + (zs.map (Value.int .i64)).length) (intsA (List.replicate zs.length 0)).toList)).toArray = intsA zs := by simp [intsA]
  rw [hrow]
  obtain ⟨w3, h3⟩ : ∃ w3, w3 = w3'.setRow (w1.heap.size + 1) (intsA zs) := ⟨_, rfl⟩
  have hg3 : w3'.grownBy w3 (some (w1.heap.size + 1)) := by
    rw [h3]
    exact ⟨rfl, rfl, rfl, by simp [World.setRow], fun k _ hne => heap_setRow_other w3' _ k _ (fun e => hne (by rw [e]))⟩
  have B3 : Blk w3 (w1.heap.size + 1) zs := by rw [h3]; exact setRow_heap w3' (w1.heap.size + 1) _ (intsA zs) 2 (0, 0) HB2.out
  rw [← h3]
  clear h3 h3' hrow
  have e3 := hg3.size
  have X3 := Lib.hid ((hg3.block w2.heap.size s3 (by simp; omega)).trans X3'.out)
  have R3 := Lib.hid ((hg3.block (w.heap.size + 1) (by omega) (by simp; omega)).trans R3'.out)
  have D3 := D3'.grown hg3 D3'.size (fun k e => by cases e; omega)
  have O3 := Lib.hid (Own.of_blk B3 (Nat.le_refl _) (by unfold maxLen; omega))
  have l3 := B3.lt
  clear hg3 B3 X3' R3' D3' R2 D2 HB2 hb3 b0 b1
  -- the digit in the row of x
  obtain ⟨b0, b1, -, -⟩ := two_cells X3.out
  have c3 := own_cell O3.out x hx
  have f3 : w3.frozen? ⟨w1.heap.size + 1, x, none⟩ = false := World.ownsRow.frozenAt O3.out x
  go_wp2_with fail
  go_region
  rw [W1.out, P1.out]
  obtain ⟨w4, hw4⟩ : ∃ w4, w4 = (w3.setCell ⟨w1.heap.size + 1, x, none⟩ (.int .i64 (flip (el zs x) y))).drew := ⟨_, rfl⟩
  have O4 : Hid (Own w4 (w1.heap.size + 1) (.slice (some ⟨w1.heap.size + 1, 0, none⟩) zs.length zs.length) (zs.set x (flip (el zs x) y))) := by rw [hw4]; exact own_drew (own_set rfl O3.out x _)
  have hg4 : w3.grownBy w4 (some (w1.heap.size + 1)) := by rw [hw4]; exact grown_trans (grown_set ⟨rfl, rfl, rfl, Nat.le_refl _, fun _ _ _ => rfl⟩ _ x _) (grown_drew _ _)
  rw [← hw4]
  clear hw4 b0 b1 c3 f3 O3
  have e4 := hg4.size
  have X4 := Lib.hid ((hg4.block w2.heap.size (by omega) (by simp; omega)).trans X3.out)
  have R4 := Lib.hid ((hg4.block (w.heap.size + 1) (by omega) (by simp; omega)).trans R3.out)
  have D4 := D3.grown hg4 D3.size (fun k e => by cases e; omega)
  clear X3 R3 D3 hg4
  -- the digit in the row of y
  obtain ⟨b0, b1, -, -⟩ := two_cells X4.out
  have hO' : Own w4 (w1.heap.size + 1) (.slice (some ⟨w1.heap.size + 1, 0, none⟩) (zs.set x (flip (el zs x) y)).length zs.length) (zs.set x (flip (el zs x) y)) := by rw [List.length_set]; exact O4.out
  have c4 := own_cell hO' y (by rw [List.length_set]; exact hy)
  rw [el_set_ne _ _ _ _ HNE.out] at c4
  have f4 : w4.frozen? ⟨w1.heap.size + 1, y, none⟩ = false := World.ownsRow.frozenAt hO' y
  clear hO'
  go_wp2_with fail
  go_region
  rw [P2.out]
  obtain ⟨w5, hw5⟩ : ∃ w5, w5 = (w4.setCell ⟨w1.heap.size + 1, y, none⟩ (.int .i64 (flip (el zs y) x))).drew := ⟨_, rfl⟩
  have O5 : Hid (Own w5 (w1.heap.size + 1) (.slice (some ⟨w1.heap.size + 1, 0, none⟩) zs.length zs.length) (flipL zs x y)) := by rw [hw5]; exact own_drew (own_set (by rw [List.length_set]) O4.out y _)
  have hg5 : w4.grownBy w5 (some (w1.heap.size + 1)) := by rw [hw5]; exact grown_trans (grown_set ⟨rfl, rfl, rfl, Nat.le_refl _, fun _ _ _ => rfl⟩ _ y _) (grown_drew _ _)
  rw [← hw5]
  clear hw5 b0 b1 c4 f4 O4
  have X5 := Lib.hid ((hg5.block w2.heap.size (by omega) (by simp; omega)).trans X4.out)
  have R5 := Lib.hid ((hg5.block (w.heap.size + 1) (by omega) (by simp; omega)).trans R4.out)
  have D5 := D4.grown hg5 D4.size (fun k e => by cases e; omega)
  clear X4 R4 D4 hg5
  obtain ⟨x0, x1, -, -⟩ := two_cells X5.out
  obtain ⟨r0, r1, f0, f1⟩ := two_cells R5.out
  go_wp2
  have hfin := two_set (a := .int .i64 zs.length) (b := .slice (some ⟨w1.heap.size + 1, 0, none⟩) zs.length zs.length) R5.out
  have hgr : w5.grownBy ((w5.setCell ⟨w.heap.size + 1, 0, none⟩ (.int .i64 zs.length)).setCell ⟨w.heap.size + 1, 1, none⟩ (.slice (some ⟨w1.heap.size + 1, 0, none⟩) zs.length zs.length)) (some (w.heap.size + 1)) := grown_set (grown_set ⟨rfl, rfl, rfl, Nat.le_refl _, fun _ _ _ => rfl⟩ _ 0 _) _ 1 _
  refine bodyPost_ret (v := .tuple #[.agg #[.int .i64 zs.length, .slice (some ⟨w1.heap.size + 1, 0, none⟩) zs.length zs.length], .int .i64 0]) (results_cell2 (p := 8) (u := 9) (ty := 28) rfl _ _ (w.heap.size + 1) 28 _ (0, 0) _ rfl hfin Tryd.underlying28 rfl (by exact info27)) rfl ⟨⟨_, rfl, ?_⟩, ?_⟩
  · exact (O5.out.kept hgr (.inr (by simp [Value.ownBlock]; omega))).base (by omega)
  · exact (D5.setCell (p := ⟨w.heap.size + 1, 0, none⟩) (by simp) _).setCell (p := ⟨w.heap.size + 1, 1, none⟩) (by simp) _
end Go.Proofs.YtkgnebjpcmblfaaDoor
