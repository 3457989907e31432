/-
  impl.graphOfPairs: the graph of a set of pairs, whatever the order of its entries.
-/
import Derived.Test.YtonfcmngokmgpaaPs
import Derived.BigRegion
namespace Go.Proofs.Ytonfcmngokmgpaa
set_option maxRecDepth 100000
open Go.RowKit Go.Maps Go.WideMaps Go.WideElems

theorem keyE_iff {p q : Nat × Nat} (h1 : p.1 < 1048576) (h2 : p.2 < 1048576) (h3 : q.1 < 1048576) (h4 : q.2 < 1048576) : keyE p = keyE q ↔ min p.1 p.2 = min q.1 q.2 ∧ max p.1 p.2 = max q.1 q.2 := by
  constructor
  · intro h
    unfold keyE at h
    have := pairL_inj (wfN _ (by omega)) (wfN _ (by omega)) (wfN _ (by omega)) (wfN _ (by omega)) h
    omega
  · rintro ⟨a, b⟩
    unfold keyE
    rw [a, b]
theorem adjS_iff (S : List (Nat × Nat)) (v w : Nat) : adjS S v w = true ↔ ∃ p, p ∈ S ∧ min v w = min p.1 p.2 ∧ max v w = max p.1 p.2 := by
  unfold adjS
  rw [List.any_eq_true]
  constructor
  · rintro ⟨p, hp, h⟩
    simp at h
    exact ⟨p, hp, by omega⟩
  · rintro ⟨p, hp, h⟩
    refine ⟨p, hp, ?_⟩
    simp
    omega
/-- What has been joined when the entries that left tells are still to come. -/
def doneF (S : List (Nat × Nat)) (left : Lit → Bool) : Nat → Nat → Bool := fun v w => adjS S v w && !left (keyE (v, w))
theorem done_start {D : DataW Unit} {S : List (Nat × Nat)} (n : Nat) (h : Holds D S) : rowsF n (doneF S (has D)) = List.replicate n 0 := by
  rw [← rowsF_none]
  apply rowsF_congr
  intro v w _ _
  unfold doneF
  cases hA : adjS S v w with
  | false => rfl
  | true =>
    obtain ⟨p, hp, h1, h2⟩ := (adjS_iff S v w).1 hA
    rw [(h (keyE (v, w))).2 ⟨p, hp, by unfold keyE; rw [h1, h2]⟩]; rfl
theorem done_end {S : List (Nat × Nat)} {left : Lit → Bool} (n : Nat) (h : ∀ kl, left kl = false) : rowsF n (doneF S left) = rowsF n (adjS S) := by
  apply rowsF_congr
  intro v w _ _
  unfold doneF
  rw [h]; simp
theorem done_step {S : List (Nat × Nat)} {left : Lit → Bool} {n lo hi : Nat} {p : Nat × Nat} (hn : n ≤ 62) (hp : p ∈ S) (h1 : p.1 < n) (h2 : p.2 < n) (hlo : lo = min p.1 p.2) (hhi : hi = max p.1 p.2) :
    put1 (put1 (rowsF n (doneF S left)) lo hi) hi lo = rowsF n (doneF S (fun z => left z && !z.sameKey (keyE p))) := by
  have e := putL_rows n (doneF S left) lo hi (by omega) (by omega)
  unfold putL at e
  rw [e]
  apply rowsF_congr
  intro v w hv hw
  show (doneF S left v w || (v == lo && w == hi) || (v == hi && w == lo)) = (adjS S v w && !(left (keyE (v, w)) && !(keyE (v, w)).sameKey (keyE p)))
  unfold doneF
  by_cases hk : keyE (v, w) = keyE p
  · have hm := (keyE_iff (p := (v, w)) (q := p) (by simp; omega) (by simp; omega) (by omega) (by omega)).1 hk
    simp only at hm
    have hA : adjS S v w = true := (adjS_iff S v w).2 ⟨p, hp, hm⟩
    rw [hk, WideAt.sameKey_self (show WideAt.IsKeyLit (keyE p) from trivial), hA]
    have : ((v == lo && w == hi) || (v == hi && w == lo)) = true := by simp; omega
    rw [Bool.or_assoc, this]; simp
  · have hm : ¬ (min v w = min p.1 p.2 ∧ max v w = max p.1 p.2) := fun h => hk ((keyE_iff (p := (v, w)) (q := p) (by simp; omega) (by simp; omega) (by omega) (by omega)).2 h)
    rw [sameKey_ne hk]
    have : ((v == lo && w == hi) || (v == hi && w == lo)) = false := by
      rw [Bool.eq_false_iff]; intro h; simp at h; omega
    rw [Bool.or_assoc, this]; simp

theorem plainElem_bool_inv {P : Program} {e : TypeId} (he : P.underlying e = some .bool) {v : Value} {z : DataW Unit × List MemPlace} (h : plainElem P e v = some z) : ∃ c, v = .bool c := by
  unfold plainElem at h
  rw [he] at h
  cases v <;> simp at h
  exact ⟨_, rfl⟩

/-- The next entry of a set of pairs. -/
theorem wpList_next_pairs (w : World) {ops : Array Oper} {rest : List Oper} {o : Oper} {a : Act} {Q : Exit → Act → World → Prop} (hg : o.guard = none) (it : Operand) (hop : o.op = Op.next it false)
    (b r n : Nat) (D : DataW Unit) (S : List (Nat × Nat)) (left : Lit → Bool) (cnt : Nat) (hit : a.eval it = .pointer (some ⟨r, 0, none⟩))
    (h : w.ranges Try.prog 58 (plainElem Try.prog 4) b r n D left cnt) (hD : Holds D S) (hS : ∀ p, p ∈ S → p.1 < 1048576 ∧ p.2 < 1048576)
    (hDone : (∀ kl, left kl = false) → wpList Try.prog ops Q rest (a.put o.dst (.tuple #[.bool false])) w)
    (hMore : ∀ (p1 p2 lo hi : Nat) (cv : Value) (w' : World) (cnt' : Nat), Hid ((p1, p2) ∈ S ∧ lo = min p1 p2 ∧ hi = max p1 p2) → w'.ranges Try.prog 58 (plainElem Try.prog 4) b r n D (fun z => left z && !z.sameKey (keyE (p1, p2))) cnt' → cnt' < cnt →
      w.grownBy w' (some r) → w'.heap.size = w.heap.size → (Instr.entry (.pointer (some ⟨r, 0, none⟩))).run Try.prog w' = .ok (.tuple #[.agg #[.int .i64 lo, .int .i64 hi], cv]) w' →
      wpList Try.prog ops Q rest (a.put o.dst (.tuple #[.bool true, .agg #[.int .i64 lo, .int .i64 hi], cv])) w') :
    wpList Try.prog ops Q (o :: rest) a w := by
  refine wpList_plain hg fun K' hK' => ?_
  unfold Oper.wp
  rcases h.next lawPair o.type with ⟨h0, hl, hrun⟩ | ⟨key, v, kl, y, w', cnt', hkey, hlk, hv, hat, hrun, hrg, hlt, hgr, hsz, hen⟩
  · simp [execOp, hop, hit, hrun, Result.andThen]
    exact hK' _ _ (hDone hl)
  · obtain ⟨p, hp, rfl⟩ := (hD kl).1 (has_true_of_atKey hat)
    obtain ⟨hp1, hp2⟩ := hS p hp
    have hk2 := keyOf_pair ((min p.1 p.2 : Nat) : Int) ((max p.1 p.2 : Nat) : Int) (wfN _ (by omega)) (wfN _ (by omega))
    obtain rfl := lawPair.inj hkey hk2
    obtain ⟨c, rfl⟩ := plainElem_bool_inv Try.underlying4 hv
    obtain ⟨lo, hlo⟩ : ∃ lo, lo = min p.1 p.2 := ⟨_, rfl⟩
    obtain ⟨hi, hhi⟩ : ∃ hi, hi = max p.1 p.2 := ⟨_, rfl⟩
    rw [← hlo, ← hhi] at hrun hen
    simp [execOp, hop, hit, hrun, Result.andThen]
    exact hK' _ _ (hMore p.1 p.2 lo hi (.bool c) w' cnt' ⟨hp, hlo, hhi⟩ hrg hlt hgr hsz hen)

theorem grown_drew (w : World) (row : Option Nat) : w.grownBy w.drew row := ⟨rfl, rfl, rfl, Nat.le_refl _, fun _ _ _ => rfl⟩
/-- A graph in memory of its own. -/
def GRet (B n : Nat) (L : List Int) (e : Ending) (w' : World) : Prop := ∃ g, e = .returned (.agg #[.int .i64 n, .slice (some ⟨g, 0, none⟩) n n]) ∧ Blk w' g L ∧ B ≤ g


set_option maxHeartbeats 1600000 in
set_option maxRecDepth 100000 in
theorem gop_any (n b : Nat) (S : List (Nat × Nat)) (w : World) (h : PS w b S) (hn : n ≤ 62) (hS : ∀ p, p ∈ S → p.1 < n ∧ p.2 < n) :
    Calls Try.prog 30 #[.int .i64 n, .map (some b)] w fun e w' => GRet w.heap.size n (rowsF n (adjS S)) e w' ∧ Below w.heap.size w w' := by
  obtain ⟨D, hown, hH⟩ := h
  have D0 : Below w.heap.size w (w.alloc (.cells #[.int .i64 0, .slice none 0 0] 24)) := (Below.refl _ _).alloc (Nat.le_refl _) _
  have hem := implEmpty_any n (w.alloc (.cells #[.int .i64 0, .slice none 0 0] 24)) (by omega)
  have HH := Lib.hid (World.alloc_heap_new w (.cells #[.int .i64 0, .slice none 0 0] 24))
  simp only [World.size_alloc] at hem
  have hbl := hown.lt
  have HOWN := Lib.hid (hown.alloc (.cells #[.int .i64 0, .slice none 0 0] 24))
  have HHo := Lib.hid hH; have HS := Lib.hid hS
  clear hH hS hown
  go_enter Try.func30, Try.ntmps30
  go_wp2_with (first
    | (go_at_call 33; refine hem.mono ?_; rintro e w1 ⟨rfl, hB1, hb1⟩; have HO1 := Lib.hid (HOWN.out.kept (grown_of_below (hb1.mono (by simp)) none) (by simp)); have HB1 := Lib.hid hB1; have Hb1 := Lib.hid hb1; clear hB1 hb1)
    | (at_range; refine wpList_range_own _ rfl _ 51 rfl 58 4 lawPair Try.underlying51 _ b S.length D rfl (HO1.out.alloc _) ?_; intro w0 hrg0 hg0 hs0))
  go_frame
  simp only [World.size_alloc] at hrg0 hs0 ⊢
  have l1 := HB1.out.lt
  have X0 : Hid (w0.heap[w1.heap.size]? = some (.cells #[.int .i64 n, .slice (some ⟨w.heap.size + 1 + 1, 0, none⟩) n n] 24 (0, 0))) := (hg0.block w1.heap.size (by simp) (by simp)).trans (World.alloc_heap_new w1 _)
  have B0 : Hid (Blk w0 (w.heap.size + 1 + 1) (rowsF n (doneF S (has D)))) := by
    show Blk _ _ _
    rw [done_start n HHo.out]
    exact (hg0.block (w.heap.size + 1 + 1) (by simp; omega) (by simp)).trans ((HB1.out.alloc _))
  have E0 : Below (w.heap.size + 1) (w.alloc (.cells #[.int .i64 0, .slice none 0 0] 24)) w0 := (Hb1.out.alloc (by omega) _).grown hg0 (by simp; omega) (fun j hj => by cases hj)
  have HS1 : Hid (∀ p, p ∈ S → p.1 < 1048576 ∧ p.2 < 1048576) := fun p hp => by have := HS.out p hp; omega
  have s0 : w1.heap.size + 2 ≤ w0.heap.size := by omega
  clear hg0 hs0 hem
  go_loopw [6] (fun _ wr => ∃ (left : Lit → Bool) (cnt : Nat), wr.ranges Try.prog 58 (plainElem Try.prog 4) b (w1.heap.size + 1) S.length D left cnt ∧ Hid (Blk wr (w.heap.size + 1 + 1) (rowsF n (doneF S left))) ∧ Hid (wr.heap[w1.heap.size]? = some (.cells #[.int .i64 n, .slice (some ⟨w.heap.size + 1 + 1, 0, none⟩) n n] 24 (0, 0))) ∧ Below (w.heap.size + 1) (w.alloc (.cells #[.int .i64 0, .slice none 0 0] 24)) wr ∧ w1.heap.size + 2 ≤ wr.heap.size) (fun _ wr => wr.rangeLeft b (w1.heap.size + 1))
  case atStart => exact ⟨_, _, hrg0, B0, X0, E0, s0⟩
  case round =>
    obtain ⟨left, cnt, hrg, HB, HX, hE, hs⟩ := hrel
    go_wp2_with (first
      | (at_next; refine wpList_next_pairs _ rfl _ rfl b (w1.heap.size + 1) S.length D S left cnt rfl hrg HHo.out HS1.out ?_ ?_)
      | go_in)
    · intro hl0
      have HF : Hid (Blk wr (w.heap.size + 1 + 1) (rowsF n (adjS S))) := by show Blk _ _ _; rw [← done_end n hl0]; exact HB.out
      have RB := Lib.hid ((hE.block w.heap.size (by omega)).trans HH.out)
      obtain ⟨r0, r1, g0, g1⟩ := two_cells RB.out
      obtain ⟨x0, x1, -, -⟩ := two_cells HX.out
      clear hl0 hrg hrg0 HB
      go_wp2_with fail
      have hfin := two_set (a := .int .i64 n) (b := .slice (some ⟨w.heap.size + 1 + 1, 0, none⟩) n n) RB.out
      refine bodyPost_ret (v := .agg #[.int .i64 n, .slice (some ⟨w.heap.size + 1 + 1, 0, none⟩) n n]) (results_cell_row (p := 4) (ty := 24) rfl _ _ w.heap.size 24 _ (0, 0) _ rfl hfin Try.underlying24 rfl (by exact info27)) rfl ⟨⟨_, rfl, ?_, by omega⟩, ?_⟩
      · exact (HF.out.other (by simp; omega) _).other (by simp; omega) _
      · exact ((D0.trans (hE.mono (by omega))).setCell (p := ⟨w.heap.size, 0, none⟩) (by simp) _).setCell (p := ⟨w.heap.size, 1, none⟩) (by simp) _
    · intro p1 p2 lo hi cv w2 cnt1 HP hrg1 hlt hg1 hs1 hen
      obtain ⟨hp, hlo, hhi⟩ := HP.out
      obtain ⟨hp1, hp2⟩ := HS.out _ hp
      simp only at hp1 hp2
      have HSTEP := Lib.hid (done_step (S := S) (left := left) hn hp hp1 hp2 hlo hhi)
      have hlon : lo < n := by omega
      have hhin : hi < n := by omega
      have hs2 : w1.heap.size + 2 ≤ w2.heap.size := by omega
      have hE2 : Below (w.heap.size + 1) (w.alloc (.cells #[.int .i64 0, .slice none 0 0] 24)) w2 := hE.grown hg1 (by omega) (fun k e => by cases e; omega)
      have HB2 : Hid (Blk w2 (w.heap.size + 1 + 1) (rowsF n (doneF S left))) := (hg1.block _ HB.out.lt (by simp; omega)).trans HB.out
      have HX2 : Hid (w2.heap[w1.heap.size]? = some (.cells #[.int .i64 n, .slice (some ⟨w.heap.size + 1 + 1, 0, none⟩) n n] 24 (0, 0))) := (hg1.block _ (by omega) (by simp)).trans HX.out
      clear hp hlo hhi hs1 hg1 HB HX hE
      go_wp2_with fail
      obtain ⟨w3, h3⟩ : ∃ w3, w3 = w2.alloc (.cells #[.int .i64 lo, .int .i64 hi] 58) := ⟨_, rfl⟩
      have hP3 : Hid (w3.heap[w2.heap.size]? = some (.cells #[.int .i64 lo, .int .i64 hi] 58 (0, 0))) := by rw [h3]; exact World.alloc_heap_new w2 _
      have hg3 : Hid (w2.grownBy w3 (some (w.heap.size + 1 + 1))) := by rw [h3]; exact World.grownBy_alloc w2 _ _
      have hb3 : Below w2.heap.size w2 w3 := by rw [h3]; exact (Below.refl _ _).alloc (Nat.le_refl _) _
      rw [← h3]
      clear h3 hen
      have HB3 := Lib.hid (HB2.out.belowAll hb3)
      have HX3 := Lib.hid ((hb3.block w1.heap.size (by omega)).trans HX2.out)
      have s3 : w2.heap.size + 1 ≤ w3.heap.size := (Array.getElem?_eq_some_iff.1 hP3.out).1
      have hE3 : Below (w.heap.size + 1) (w.alloc (.cells #[.int .i64 0, .slice none 0 0] 24)) w3 := hE2.trans (hb3.mono (by omega))
      clear HB2 HX2 hb3 hE2
      have pm := pow_bounds n hn
      have hlen := rowsF_length n (doneF S left)
      have HLEN := Lib.hid hlen
      have hza := rowsF_bd n (doneF S left) lo hlon
      have hL1 : (put1 (rowsF n (doneF S left)) lo hi).length = n := by rw [put1_length]; exact hlen
      have HL1 := Lib.hid hL1
      have hzb : 0 ≤ el (put1 (rowsF n (doneF S left)) lo hi) hi ∧ el (put1 (rowsF n (doneF S left)) lo hi) hi ≤ 2 ^ n - 1 := by
        rw [put1_rows n _ lo hi hhin]; exact rowsF_bd n _ hi hhin
      have P1 := Lib.hid (por_or (el (rowsF n (doneF S left)) lo) hi hza.1 (by omega) (by omega))
      have P2 := Lib.hid (por_or (el (put1 (rowsF n (doneF S left)) lo hi) hi) lo hzb.1 (by omega) (by omega))
      clear hlen hL1
      have c1 := HB3.out.cell (i := lo) (by rw [HLEN.out]; exact hlon)
      have f1 : w3.frozen? ⟨w.heap.size + 1 + 1, lo, none⟩ = false := HB3.out.frozen lo
      obtain ⟨x0, x1, -, -⟩ := two_cells HX3.out
      obtain ⟨y0, y1, -, -⟩ := two_cells hP3.out
      have ha0 : (0 : Int) ≤ lo := by omega
      have hb0 : (0 : Int) ≤ hi := by omega
      have ham : (lo : Int) < n := by omega
      have hbm : (hi : Int) < n := by omega
      have qa := pow_bounds lo (by omega)
      have qb := pow_bounds hi (by omega)
      go_region
      rw [P1.out]
      obtain ⟨w4, h4⟩ : ∃ w4, w4 = (w3.setCell ⟨w.heap.size + 1 + 1, lo, none⟩ (.int .i64 (por (el (rowsF n (doneF S left)) lo) hi))).drew := ⟨_, rfl⟩
      have HB4 : Hid (Blk w4 (w.heap.size + 1 + 1) (put1 (rowsF n (doneF S left)) lo hi)) := by rw [h4]; exact HB3.out.set lo _
      have HG4 : Hid (w3.grownBy w4 (some (w.heap.size + 1 + 1))) := by rw [h4]; exact grown_trans (grown_set ⟨rfl, rfl, rfl, Nat.le_refl _, fun _ _ _ => rfl⟩ _ lo _) (grown_drew _ _)
      rw [← h4]
      clear h4 x0 x1 y0 y1 c1 f1 HB3
      have s4 := HG4.out.size
      have HX4 := Lib.hid ((HG4.out.block w1.heap.size (by omega) (by simp; omega)).trans HX3.out)
      have HP4 := Lib.hid ((HG4.out.block w2.heap.size (by omega) (by simp; omega)).trans hP3.out)
      have hE4 := hE3.grown HG4.out (by omega) (fun k e => by cases e; omega)
      obtain ⟨x0, x1, -, -⟩ := two_cells HX4.out
      obtain ⟨y0, y1, -, -⟩ := two_cells HP4.out
      have c2 := HB4.out.cell (i := hi) (by rw [HL1.out]; exact hhin)
      have f2 : w4.frozen? ⟨w.heap.size + 1 + 1, hi, none⟩ = false := HB4.out.frozen hi
      clear hE3 HX3 hP3
      go_wp2_with fail
      go_region
      rw [P2.out]
      obtain ⟨w5, h5⟩ : ∃ w5, w5 = (w4.setCell ⟨w.heap.size + 1 + 1, hi, none⟩ (.int .i64 (por (el (put1 (rowsF n (doneF S left)) lo hi) hi) lo))).drew := ⟨_, rfl⟩
      have HB5 : Hid (Blk w5 (w.heap.size + 1 + 1) (rowsF n (doneF S (fun z => left z && !z.sameKey (keyE (p1, p2)))))) := by show Blk _ _ _; rw [← HSTEP.out, h5]; exact HB4.out.set hi _
      have HG5 : Hid (w4.grownBy w5 (some (w.heap.size + 1 + 1))) := by rw [h5]; exact grown_trans (grown_set ⟨rfl, rfl, rfl, Nat.le_refl _, fun _ _ _ => rfl⟩ _ hi _) (grown_drew _ _)
      rw [← h5]
      clear h5 x0 x1 y0 y1 c2 f2 HB4
      have s5 := HG5.out.size
      have HX5 := Lib.hid ((HG5.out.block w1.heap.size (by omega) (by simp; omega)).trans HX4.out)
      have hE5 := hE4.grown HG5.out (by omega) (fun k e => by cases e; omega)
      have HR5 := Lib.hid (hrg1.kept (grown_trans hg3.out (grown_trans HG4.out HG5.out)) (by simp; omega) (by simp; omega))
      clear hE4 HX4 HP4 hrg1 hrg0
      go_wp2_with fail
      go_roundw
      case rel => exact ⟨_, cnt1, HR5.out, HB5, HX5, hE5, by omega⟩
      case measure => rw [HR5.out.left_eq, hrg.left_eq]; exact hlt
end Go.Proofs.Ytonfcmngokmgpaa
