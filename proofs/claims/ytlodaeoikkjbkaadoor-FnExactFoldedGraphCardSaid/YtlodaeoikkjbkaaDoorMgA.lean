/-
  Several texts in one: PsT GpT JpT UfT UjT Ks.
-/
import Derived.Test.YtlodaeoikkjbkaaDoorCoS
import Derived.Test.YtlodaeoikkjbkaaDoorMark
import Derived.Test.YtlodaeoikkjbkaaDoorIsB
import Derived.Test.YtlodaeoikkjbkaaDoorEd
import Derived.Maps.RangeWalk
import Derived.Maps.Ext
import Derived.DeepKeys4
import Derived.WideKeyArr2
import Derived.Deep.RegionWith
import Derived.BigRegion
import Derived.OneCell
import Derived.Deep.DeepCutAuto
namespace Go.Proofs.YtlodaeoikkjbkaaDoor
set_option maxRecDepth 100000
open Go.RowKit Go.Maps Go.WideMaps Go.WideElems

theorem arrPair : ArrKey Tryd.prog 94 2 2 := ⟨Tryd.underlying94, by kernel_rfl, by kernel_rfl, by kernel_rfl⟩
theorem lawPair : Keyed Tryd.prog 94 := Keyed.of_law arrPair.law
theorem types_pos : ∃ m, Tryd.prog.types.size = m + 1 := ⟨Tryd.prog.types.size - 1, by have : 0 < Tryd.prog.types.size := of_decide_eq_true (by kernel_rfl); omega⟩
/-- How a pair reads as a key. -/
def pairL (a b : Int) : Lit := .string (keyBytes [.int .i64 a, .int .i64 b])
theorem keyOf_pair (a b : Int) (ha : (Lit.int .i64 a).wf = true) (hb : (Lit.int .i64 b).wf = true) : keyOf Tryd.prog 94 (.agg #[.int .i64 a, .int .i64 b]) = some (pairL a b) := by
  have hkt := arrPair.keyType types_pos
  obtain ⟨m0, hm0⟩ := types_pos
  have c1 := arrPair.one
  unfold keyOf
  simp only [arrPair.hu]
  rw [if_pos (by simp [hkt, Value.formed, arrPair.hu, arrPair.size]), hm0]
  unfold Program.keyLits
  simp only [arrPair.hu, Value.cells]
  rw [if_pos (by simp [arrPair.size])]
  simp [List.range_succ, c1, Program.keyLits, Tryd.underlying2, ha, hb, pairL]
theorem pairL_inj {a b c d : Int} (ha : (Lit.int .i64 a).wf = true) (hb : (Lit.int .i64 b).wf = true) (hc : (Lit.int .i64 c).wf = true) (hd : (Lit.int .i64 d).wf = true) (h : pairL a b = pairL c d) : a = c ∧ b = d := by
  have h1 := keyOf_pair a b ha hb
  have h2 := keyOf_pair c d hc hd
  rw [h] at h1
  have := lawPair.inj h1 h2
  simpa using this
theorem pairL_key (a b : Int) : WideAt.IsKeyLit (pairL a b) := trivial

theorem wfN (n : Nat) (h : n < 9223372036854775807) : (Lit.int .i64 (n : Int)).wf = true := WalkArith.wf_i64 (by omega)
/-- The key of an edge. -/
def keyE (p : Nat × Nat) : Lit := pairL ((min p.1 p.2 : Nat) : Int) ((max p.1 p.2 : Nat) : Int)
/-- The keys of D are just the edges of S. -/
def Holds (D : DataW Unit) (S : List (Nat × Nat)) : Prop := ∀ kl, has D kl = true ↔ ∃ p, p ∈ S ∧ kl = keyE p
theorem Holds.nil : Holds (.map []) [] := fun kl => by simp [has]
theorem Holds.put {D : DataW Unit} {S : List (Nat × Nat)} (h : Holds D S) (hD : IsMap D) (p : Nat × Nat) (d : DataW Unit) : Holds (D.put (keyE p) d) (S ++ [p]) := by
  intro kl
  by_cases e : kl = keyE p
  · subst e
    rw [has_put_same hD (show WideAt.IsKeyLit (keyE p) from trivial)]
    exact ⟨fun _ => ⟨p, by simp, rfl⟩, fun _ => rfl⟩
  · rw [has_put_other e, h kl]
    constructor
    · rintro ⟨q, hq, rfl⟩; exact ⟨q, List.mem_append_left _ hq, rfl⟩
    · rintro ⟨q, hq, rfl⟩
      rcases List.mem_append.1 hq with hq | hq
      · exact ⟨q, hq, rfl⟩
      · simp at hq; subst hq; exact absurd rfl e

/-- Block b is a map whose keys are just the edges of S. -/
def PS (w : World) (b : Nat) (S : List (Nat × Nat)) : Prop := ∃ D : DataW Unit, w.ownsMap Tryd.prog 94 (plainElem Tryd.prog 4) b S.length D ∧ Holds D S
theorem PS.made (w : World) : PS (w.alloc (.map #[] 0)) w.heap.size [] := ⟨_, World.ownsMap_made _ _ _ _, Holds.nil⟩
theorem PS.kept {w w' : World} {b : Nat} {S : List (Nat × Nat)} {row : Option Nat} (h : PS w b S) (hg : w.grownBy w' row) (hne : some b ≠ row) : PS w' b S := by
  obtain ⟨D, h1, h2⟩ := h
  exact ⟨D, h1.kept hg hne, h2⟩
theorem PS.lt {w : World} {b : Nat} {S : List (Nat × Nat)} (h : PS w b S) : b < w.heap.size := by obtain ⟨D, h1, _⟩ := h; exact h1.lt
theorem PS.below {w w' : World} {b : Nat} {S : List (Nat × Nat)} (h : PS w b S) (hb : Below w.heap.size w w') : PS w' b S := h.kept (grown_of_below hb none) (by simp)

theorem max_ite (a b : Nat) : ((max a b : Nat) : Int) = max (a : Int) (b : Int) := by omega
theorem min_ite (a b : Nat) : ((min a b : Nat) : Int) = min (a : Int) (b : Int) := by omega

set_option maxHeartbeats 800000 in
theorem join_any (b : Nat) (S : List (Nat × Nat)) (x y : Nat) (w : World) (h : PS w b S) (hS : S.length < 1048576) (hx : x < 1048576) (hy : y < 1048576) :
    Calls Tryd.prog 77 #[.map (some b), .int .i64 x, .int .i64 y] w fun e w' => (∃ v, e = .returned v) ∧ PS w' b (S ++ [(x, y)]) ∧ w.grownBy w' (some b) := by
  obtain ⟨D, hown, hH⟩ := h
  have HU := Lib.hid (hH.put hown.isMap (x, y))
  have HO := Lib.hid hown
  have HLen : Hid (S.length < maxLen) := by show _ < _; unfold maxLen; omega
  have hx0 : (0 : Int) ≤ x := by omega
  have hy0 : (0 : Int) ≤ y := by omega
  clear hH hown
  rcases Nat.lt_trichotomy x y with hxy | hxy | hxy
  · have e : keyE (x, y) = pairL (x : Int) (y : Int) := by unfold keyE; rw [Nat.min_eq_left (by omega), Nat.max_eq_right (by omega)]
    rw [e] at HU
    have h1 : ¬ (y : Int) < x := by omega
    have h2 : (x : Int) < y := by omega
    have h3 : ¬ y < x := by omega
    have h4 : x < y := by omega
    have w1 := wfN x (by omega)
    have w2 := wfN y (by omega)
    clear e hxy
    go_enter Tryd.func77, Tryd.ntmps77
    go_wp2_with (at_mapUpdate; refine wpList_mapUpdate_own _ rfl _ _ _ 86 rfl 94 4 lawPair Tryd.underlying86 _ b _ _ rfl HO.out HLen.out _ _ (pairL x y) rfl rfl (keyOf_pair x y w1 w2) _ [] (plainElem_bool Tryd.underlying4 true) ?_; intro w1 hown1 hgr1)
    go_end0
    exact ⟨⟨_, rfl⟩, ⟨_, by rw [List.length_append]; exact hown1, HU.out _⟩, hgr1⟩
  · subst hxy
    have hxy : x = x := rfl
    have e : keyE (x, x) = pairL (x : Int) (x : Int) := by unfold keyE; rw [Nat.min_self, Nat.max_self]
    rw [e] at HU
    have w1 := wfN x (by omega)
    clear e hxy
    go_enter Tryd.func77, Tryd.ntmps77
    go_wp2_with (at_mapUpdate; refine wpList_mapUpdate_own _ rfl _ _ _ 86 rfl 94 4 lawPair Tryd.underlying86 _ b _ _ rfl HO.out HLen.out _ _ (pairL x x) rfl rfl (keyOf_pair x x w1 w1) _ [] (plainElem_bool Tryd.underlying4 true) ?_; intro w1 hown1 hgr1)
    go_end0
    exact ⟨⟨_, rfl⟩, ⟨_, by rw [List.length_append]; exact hown1, HU.out _⟩, hgr1⟩
  · have e : keyE (x, y) = pairL (y : Int) (x : Int) := by unfold keyE; rw [Nat.min_eq_right (by omega), Nat.max_eq_left (by omega)]
    rw [e] at HU
    have h1 : (y : Int) < x := by omega
    have h2 : ¬ (x : Int) < y := by omega
    have h3 : y < x := by omega
    have h4 : ¬ x < y := by omega
    have w1 := wfN x (by omega)
    have w2 := wfN y (by omega)
    clear e hxy
    go_enter Tryd.func77, Tryd.ntmps77
    go_wp2_with (at_mapUpdate; refine wpList_mapUpdate_own _ rfl _ _ _ 86 rfl 94 4 lawPair Tryd.underlying86 _ b _ _ rfl HO.out HLen.out _ _ (pairL y x) rfl rfl (keyOf_pair y x w2 w1) _ [] (plainElem_bool Tryd.underlying4 true) ?_; intro w1 hown1 hgr1)
    go_end0
    exact ⟨⟨_, rfl⟩, ⟨_, by rw [List.length_append]; exact hown1, HU.out _⟩, hgr1⟩
end Go.Proofs.YtlodaeoikkjbkaaDoor
namespace Go.Proofs.YtlodaeoikkjbkaaDoor
set_option maxRecDepth 100000
open Go.RowKit Go.Maps Go.WideMaps Go.WideElems

theorem keyE_iff {p q : Nat × Nat} (h1 : p.1 < 1048576) (h2 : p.2 < 1048576) (h3 : q.1 < 1048576) (h4 : q.2 < 1048576) : keyE p = keyE q ↔ min p.1 p.2 = min q.1 q.2 ∧ max p.1 p.2 = max q.1 q.2 := by
  constructor
  · intro h
    unfold keyE at h
    have := pairL_inj (wfN _ (by omega)) (wfN _ (by omega)) (wfN _ (by omega)) (wfN _ (by omega)) h
    omega
  · rintro ⟨a, b⟩
    unfold keyE
    rw [a, b]
theorem adjS_iff (S : List (Nat × Nat)) (v w : Nat) : adjS S v w = true ↔ ∃ p, p ∈ S ∧ min v w = min p.1 p.2 ∧ max v w = max p.1 p.2 := by
  unfold adjS
  rw [List.any_eq_true]
  constructor
  · rintro ⟨p, hp, h⟩
    simp at h
    exact ⟨p, hp, by omega⟩
  · rintro ⟨p, hp, h⟩
    refine ⟨p, hp, ?_⟩
    simp
    omega
/-- What has been joined when the entries that left tells are still to come. -/
def doneF (S : List (Nat × Nat)) (left : Lit → Bool) : Nat → Nat → Bool := fun v w => adjS S v w && !left (keyE (v, w))
theorem done_start {D : DataW Unit} {S : List (Nat × Nat)} (n : Nat) (h : Holds D S) : rowsF n (doneF S (has D)) = List.replicate n 0 := by
  rw [← rowsF_none]
  apply rowsF_congr
  intro v w _ _
  unfold doneF
  cases hA : adjS S v w with
  | false => rfl
  | true =>
    obtain ⟨p, hp, h1, h2⟩ := (adjS_iff S v w).1 hA
    rw [(h (keyE (v, w))).2 ⟨p, hp, by unfold keyE; rw [h1, h2]⟩]; rfl
theorem done_end {S : List (Nat × Nat)} {left : Lit → Bool} (n : Nat) (h : ∀ kl, left kl = false) : rowsF n (doneF S left) = rowsF n (adjS S) := by
  apply rowsF_congr
  intro v w _ _
  unfold doneF
  rw [h]; simp
theorem done_step {S : List (Nat × Nat)} {left : Lit → Bool} {n lo hi : Nat} {p : Nat × Nat} (hn : n ≤ 62) (hp : p ∈ S) (h1 : p.1 < n) (h2 : p.2 < n) (hlo : lo = min p.1 p.2) (hhi : hi = max p.1 p.2) :
    put1 (put1 (rowsF n (doneF S left)) lo hi) hi lo = rowsF n (doneF S (fun z => left z && !z.sameKey (keyE p))) := by
  have e := putL_rows n (doneF S left) lo hi (by omega) (by omega)
  unfold e_putL at e
  rw [e]
  apply rowsF_congr
  intro v w hv hw
  show (doneF S left v w || (v == lo && w == hi) || (v == hi && w == lo)) = (adjS S v w && !(left (keyE (v, w)) && !(keyE (v, w)).sameKey (keyE p)))
  unfold doneF
  by_cases hk : keyE (v, w) = keyE p
  · have hm := (keyE_iff (p := (v, w)) (q := p) (by simp; omega) (by simp; omega) (by omega) (by omega)).1 hk
    simp only at hm
    have hA : adjS S v w = true := (adjS_iff S v w).2 ⟨p, hp, hm⟩
    rw [hk, WideAt.sameKey_self (show WideAt.IsKeyLit (keyE p) from trivial), hA]
    have : ((v == lo && w == hi) || (v == hi && w == lo)) = true := by simp; omega
    rw [Bool.or_assoc, this]; simp
  · have hm : ¬ (min v w = min p.1 p.2 ∧ max v w = max p.1 p.2) := fun h => hk ((keyE_iff (p := (v, w)) (q := p) (by simp; omega) (by simp; omega) (by omega) (by omega)).2 h)
    rw [sameKey_ne hk]
    have : ((v == lo && w == hi) || (v == hi && w == lo)) = false := by
      rw [Bool.eq_false_iff]; intro h; simp at h; omega
    rw [Bool.or_assoc, this]; simp

theorem plainElem_bool_inv {P : Program} {e : TypeId} (he : P.underlying e = some .bool) {v : Value} {z : DataW Unit × List MemPlace} (h : plainElem P e v = some z) : ∃ c, v = .bool c := by
  unfold plainElem at h
  rw [he] at h
  cases v <;> simp at h
  exact ⟨_, rfl⟩

/-- The next entry of a set of pairs. -/
theorem wpList_next_pairs (w : World) {ops : Array Oper} {rest : List Oper} {o : Oper} {a : Act} {Q : Exit → Act → World → Prop} (hg : o.guard = none) (it : Operand) (hop : o.op = Op.next it false)
    (b r n : Nat) (D : DataW Unit) (S : List (Nat × Nat)) (left : Lit → Bool) (cnt : Nat) (hit : a.eval it = .pointer (some ⟨r, 0, none⟩))
    (h : w.ranges Tryd.prog 94 (plainElem Tryd.prog 4) b r n D left cnt) (hD : Holds D S) (hS : ∀ p, p ∈ S → p.1 < 1048576 ∧ p.2 < 1048576)
    (hDone : (∀ kl, left kl = false) → wpList Tryd.prog ops Q rest (a.put o.dst (.tuple #[.bool false])) w)
    (hMore : ∀ (p1 p2 lo hi : Nat) (cv : Value) (w' : World) (cnt' : Nat), Hid ((p1, p2) ∈ S ∧ lo = min p1 p2 ∧ hi = max p1 p2) → w'.ranges Tryd.prog 94 (plainElem Tryd.prog 4) b r n D (fun z => left z && !z.sameKey (keyE (p1, p2))) cnt' → cnt' < cnt →
      w.grownBy w' (some r) → w'.heap.size = w.heap.size → (Instr.entry (.pointer (some ⟨r, 0, none⟩))).run Tryd.prog w' = .ok (.tuple #[.agg #[.int .i64 lo, .int .i64 hi], cv]) w' →
      wpList Tryd.prog ops Q rest (a.put o.dst (.tuple #[.bool true, .agg #[.int .i64 lo, .int .i64 hi], cv])) w') :
    wpList Tryd.prog ops Q (o :: rest) a w := by
  refine wpList_plain hg fun K' hK' => ?_
  unfold Oper.wp
  rcases h.next lawPair o.type with ⟨h0, hl, hrun⟩ | ⟨key, v, kl, y, w', cnt', hkey, hlk, hv, hat, hrun, hrg, hlt, hgr, hsz, hen⟩
  · simp [execOp, hop, hit, hrun, Result.andThen]
    exact hK' _ _ (hDone hl)
  · obtain ⟨p, hp, rfl⟩ := (hD kl).1 (has_true_of_atKey hat)
    obtain ⟨hp1, hp2⟩ := hS p hp
    have hk2 := keyOf_pair ((min p.1 p.2 : Nat) : Int) ((max p.1 p.2 : Nat) : Int) (wfN _ (by omega)) (wfN _ (by omega))
    obtain rfl := lawPair.inj hkey hk2
    obtain ⟨c, rfl⟩ := plainElem_bool_inv Tryd.underlying4 hv
    obtain ⟨lo, hlo⟩ : ∃ lo, lo = min p.1 p.2 := ⟨_, rfl⟩
    obtain ⟨hi, hhi⟩ : ∃ hi, hi = max p.1 p.2 := ⟨_, rfl⟩
    rw [← hlo, ← hhi] at hrun hen
    simp [execOp, hop, hit, hrun, Result.andThen]
    exact hK' _ _ (hMore p.1 p.2 lo hi (.bool c) w' cnt' ⟨hp, hlo, hhi⟩ hrg hlt hgr hsz hen)

theorem e_grown_drew (w : World) (row : Option Nat) : w.grownBy w.drew row := ⟨rfl, rfl, rfl, Nat.le_refl _, fun _ _ _ => rfl⟩
/-- A graph in memory of its own. -/
def GRet (B n : Nat) (L : List Int) (e : Ending) (w' : World) : Prop := ∃ g, e = .returned (.agg #[.int .i64 n, .slice (some ⟨g, 0, none⟩) n n]) ∧ Blk w' g L ∧ B ≤ g


set_option maxHeartbeats 1600000 in
set_option maxRecDepth 100000 in
theorem gop_any (n b : Nat) (S : List (Nat × Nat)) (w : World) (h : PS w b S) (hn : n ≤ 62) (hS : ∀ p, p ∈ S → p.1 < n ∧ p.2 < n) :
    Calls Tryd.prog 78 #[.int .i64 n, .map (some b)] w fun e w' => GRet w.heap.size n (rowsF n (adjS S)) e w' ∧ Below w.heap.size w w' := by
  obtain ⟨D, hown, hH⟩ := h
  have D0 : Below w.heap.size w (w.alloc (.cells #[.int .i64 0, .slice none 0 0] 28)) := (Below.refl _ _).alloc (Nat.le_refl _) _
  have hem := implEmpty_any n (w.alloc (.cells #[.int .i64 0, .slice none 0 0] 28)) (by omega)
  have HH := Lib.hid (World.alloc_heap_new w (.cells #[.int .i64 0, .slice none 0 0] 28))
  simp only [World.size_alloc] at hem
  have hbl := hown.lt
  have HOWN := Lib.hid (hown.alloc (.cells #[.int .i64 0, .slice none 0 0] 28))
  have HHo := Lib.hid hH; have HS := Lib.hid hS
  clear hH hS hown
  go_enter Tryd.func78, Tryd.ntmps78
  go_wp2_with (first
    | (go_at_call 88; refine hem.mono ?_; rintro e w1 ⟨rfl, hB1, hb1⟩; have HO1 := Lib.hid (HOWN.out.kept (grown_of_below (hb1.mono (by simp)) none) (by simp)); have HB1 := Lib.hid hB1; have Hb1 := Lib.hid hb1; clear hB1 hb1)
    | (at_range; refine wpList_range_own _ rfl _ 86 rfl 94 4 lawPair Tryd.underlying86 _ b S.length D rfl (HO1.out.alloc _) ?_; intro w0 hrg0 hg0 hs0))
  go_frame
  simp only [World.size_alloc] at hrg0 hs0 ⊢
  have l1 := HB1.out.lt
  have X0 : Hid (w0.heap[w1.heap.size]? = some (.cells #[.int .i64 n, .slice (some ⟨w.heap.size + 1 + 1, 0, none⟩) n n] 28 (0, 0))) := (hg0.block w1.heap.size (by simp) (by simp)).trans (World.alloc_heap_new w1 _)
  have B0 : Hid (Blk w0 (w.heap.size + 1 + 1) (rowsF n (doneF S (has D)))) := by
    show Blk _ _ _
    rw [done_start n HHo.out]
    exact (hg0.block (w.heap.size + 1 + 1) (by simp; omega) (by simp)).trans ((HB1.out.alloc _))
  have E0 : Below (w.heap.size + 1) (w.alloc (.cells #[.int .i64 0, .slice none 0 0] 28)) w0 := (Hb1.out.alloc (by omega) _).grown hg0 (by simp; omega) (fun j hj => by cases hj)
  have HS1 : Hid (∀ p, p ∈ S → p.1 < 1048576 ∧ p.2 < 1048576) := fun p hp => by have := HS.out p hp; omega
  have s0 : w1.heap.size + 2 ≤ w0.heap.size := by omega
  clear hg0 hs0 hem
  go_loopw [6] (fun _ wr => ∃ (left : Lit → Bool) (cnt : Nat), wr.ranges Tryd.prog 94 (plainElem Tryd.prog 4) b (w1.heap.size + 1) S.length D left cnt ∧ Hid (Blk wr (w.heap.size + 1 + 1) (rowsF n (doneF S left))) ∧ Hid (wr.heap[w1.heap.size]? = some (.cells #[.int .i64 n, .slice (some ⟨w.heap.size + 1 + 1, 0, none⟩) n n] 28 (0, 0))) ∧ Below (w.heap.size + 1) (w.alloc (.cells #[.int .i64 0, .slice none 0 0] 28)) wr ∧ w1.heap.size + 2 ≤ wr.heap.size) (fun _ wr => wr.rangeLeft b (w1.heap.size + 1))
  case atStart => exact ⟨_, _, hrg0, B0, X0, E0, s0⟩
  case round =>
    obtain ⟨left, cnt, hrg, HB, HX, hE, hs⟩ := hrel
    go_wp2_with (first
      | (at_next; refine wpList_next_pairs _ rfl _ rfl b (w1.heap.size + 1) S.length D S left cnt rfl hrg HHo.out HS1.out ?_ ?_)
      | go_in)
    · intro hl0
      have HF : Hid (Blk wr (w.heap.size + 1 + 1) (rowsF n (adjS S))) := by show Blk _ _ _; rw [← done_end n hl0]; exact HB.out
      have RB := Lib.hid ((hE.block w.heap.size (by omega)).trans HH.out)
      obtain ⟨r0, r1, g0, g1⟩ := two_cells RB.out
      obtain ⟨x0, x1, -, -⟩ := two_cells HX.out
      clear hl0 hrg hrg0 HB
      go_wp2_with fail
      have hfin := two_set (a := .int .i64 n) (b := .slice (some ⟨w.heap.size + 1 + 1, 0, none⟩) n n) RB.out
      refine bodyPost_ret (v := .agg #[.int .i64 n, .slice (some ⟨w.heap.size + 1 + 1, 0, none⟩) n n]) (results_cell_row (p := 4) (ty := 28) rfl _ _ w.heap.size 28 _ (0, 0) _ rfl hfin Tryd.underlying28 rfl (by exact info27)) rfl ⟨⟨_, rfl, ?_, by omega⟩, ?_⟩
      · exact (HF.out.other (by simp; omega) _).other (by simp; omega) _
      · exact ((D0.trans (hE.mono (by omega))).setCell (p := ⟨w.heap.size, 0, none⟩) (by simp) _).setCell (p := ⟨w.heap.size, 1, none⟩) (by simp) _
    · intro p1 p2 lo hi cv w2 cnt1 HP hrg1 hlt hg1 hs1 hen
      obtain ⟨hp, hlo, hhi⟩ := HP.out
      obtain ⟨hp1, hp2⟩ := HS.out _ hp
      simp only at hp1 hp2
      have HSTEP := Lib.hid (done_step (S := S) (left := left) hn hp hp1 hp2 hlo hhi)
      have hlon : lo < n := by omega
      have hhin : hi < n := by omega
      have hs2 : w1.heap.size + 2 ≤ w2.heap.size := by omega
      have hE2 : Below (w.heap.size + 1) (w.alloc (.cells #[.int .i64 0, .slice none 0 0] 28)) w2 := hE.grown hg1 (by omega) (fun k e => by cases e; omega)
      have HB2 : Hid (Blk w2 (w.heap.size + 1 + 1) (rowsF n (doneF S left))) := (hg1.block _ HB.out.lt (by simp; omega)).trans HB.out
      have HX2 : Hid (w2.heap[w1.heap.size]? = some (.cells #[.int .i64 n, .slice (some ⟨w.heap.size + 1 + 1, 0, none⟩) n n] 28 (0, 0))) := (hg1.block _ (by omega) (by simp)).trans HX.out
      clear hp hlo hhi hs1 hg1 HB HX hE
      go_wp2_with fail
      obtain ⟨w3, h3⟩ : ∃ w3, w3 = w2.alloc (.cells #[.int .i64 lo, .int .i64 hi] 94) := ⟨_, rfl⟩
      have hP3 : Hid (w3.heap[w2.heap.size]? = some (.cells #[.int .i64 lo, .int .i64 hi] 94 (0, 0))) := by rw [h3]; exact World.alloc_heap_new w2 _
      have hg3 : Hid (w2.grownBy w3 (some (w.heap.size + 1 + 1))) := by rw [h3]; exact World.grownBy_alloc w2 _ _
      have hb3 : Below w2.heap.size w2 w3 := by rw [h3]; exact (Below.refl _ _).alloc (Nat.le_refl _) _
      rw [← h3]
      clear h3 hen
      have HB3 := Lib.hid (HB2.out.belowAll hb3)
      have HX3 := Lib.hid ((hb3.block w1.heap.size (by omega)).trans HX2.out)
      have s3 : w2.heap.size + 1 ≤ w3.heap.size := (Array.getElem?_eq_some_iff.1 hP3.out).1
      have hE3 : Below (w.heap.size + 1) (w.alloc (.cells #[.int .i64 0, .slice none 0 0] 28)) w3 := hE2.trans (hb3.mono (by omega))
      clear HB2 HX2 hb3 hE2
      have pm := pow_bounds n hn
      have hlen := rowsF_length n (doneF S left)
      have HLEN := Lib.hid hlen
      have hza := rowsF_bd n (doneF S left) lo hlon
      have hL1 : (put1 (rowsF n (doneF S left)) lo hi).length = n := by rw [put1_length]; exact hlen
      have HL1 := Lib.hid hL1
      have hzb : 0 ≤ el (put1 (rowsF n (doneF S left)) lo hi) hi ∧ el (put1 (rowsF n (doneF S left)) lo hi) hi ≤ 2 ^ n - 1 := by
        rw [put1_rows n _ lo hi hhin]; exact rowsF_bd n _ hi hhin
      have P1 := Lib.hid (e_por_or (el (rowsF n (doneF S left)) lo) hi hza.1 (by omega) (by omega))
      have P2 := Lib.hid (e_por_or (el (put1 (rowsF n (doneF S left)) lo hi) hi) lo hzb.1 (by omega) (by omega))
      clear hlen hL1
      have c1 := HB3.out.cell (i := lo) (by rw [HLEN.out]; exact hlon)
      have f1 : w3.frozen? ⟨w.heap.size + 1 + 1, lo, none⟩ = false := HB3.out.frozen lo
      obtain ⟨x0, x1, -, -⟩ := two_cells HX3.out
      obtain ⟨y0, y1, -, -⟩ := two_cells hP3.out
      have ha0 : (0 : Int) ≤ lo := by omega
      have hb0 : (0 : Int) ≤ hi := by omega
      have ham : (lo : Int) < n := by omega
      have hbm : (hi : Int) < n := by omega
      have qa := pow_bounds lo (by omega)
      have qb := pow_bounds hi (by omega)
      go_region
      rw [P1.out]
      obtain ⟨w4, h4⟩ : ∃ w4, w4 = (w3.setCell ⟨w.heap.size + 1 + 1, lo, none⟩ (.int .i64 (e_por (el (rowsF n (doneF S left)) lo) hi))).drew := ⟨_, rfl⟩
      have HB4 : Hid (Blk w4 (w.heap.size + 1 + 1) (put1 (rowsF n (doneF S left)) lo hi)) := by rw [h4]; exact HB3.out.set lo _
      have HG4 : Hid (w3.grownBy w4 (some (w.heap.size + 1 + 1))) := by rw [h4]; exact grown_trans (grown_set ⟨rfl, rfl, rfl, Nat.le_refl _, fun _ _ _ => rfl⟩ _ lo _) (e_grown_drew _ _)
      rw [← h4]
      clear h4 x0 x1 y0 y1 c1 f1 HB3
      have s4 := HG4.out.size
      have HX4 := Lib.hid ((HG4.out.block w1.heap.size (by omega) (by simp; omega)).trans HX3.out)
      have HP4 := Lib.hid ((HG4.out.block w2.heap.size (by omega) (by simp; omega)).trans hP3.out)
      have hE4 := hE3.grown HG4.out (by omega) (fun k e => by cases e; omega)
      obtain ⟨x0, x1, -, -⟩ := two_cells HX4.out
      obtain ⟨y0, y1, -, -⟩ := two_cells HP4.out
      have c2 := HB4.out.cell (i := hi) (by rw [HL1.out]; exact hhin)
      have f2 : w4.frozen? ⟨w.heap.size + 1 + 1, hi, none⟩ = false := HB4.out.frozen hi
      clear hE3 HX3 hP3
      go_wp2_with fail
      go_region
      rw [P2.out]
      obtain ⟨w5, h5⟩ : ∃ w5, w5 = (w4.setCell ⟨w.heap.size + 1 + 1, hi, none⟩ (.int .i64 (e_por (el (put1 (rowsF n (doneF S left)) lo hi) hi) lo))).drew := ⟨_, rfl⟩
      have HB5 : Hid (Blk w5 (w.heap.size + 1 + 1) (rowsF n (doneF S (fun z => left z && !z.sameKey (keyE (p1, p2)))))) := by show Blk _ _ _; rw [← HSTEP.out, h5]; exact HB4.out.set hi _
      have HG5 : Hid (w4.grownBy w5 (some (w.heap.size + 1 + 1))) := by rw [h5]; exact grown_trans (grown_set ⟨rfl, rfl, rfl, Nat.le_refl _, fun _ _ _ => rfl⟩ _ hi _) (e_grown_drew _ _)
      rw [← h5]
      clear h5 x0 x1 y0 y1 c2 f2 HB4
      have s5 := HG5.out.size
      have HX5 := Lib.hid ((HG5.out.block w1.heap.size (by omega) (by simp; omega)).trans HX4.out)
      have hE5 := hE4.grown HG5.out (by omega) (fun k e => by cases e; omega)
      have HR5 := Lib.hid (hrg1.kept (grown_trans hg3.out (grown_trans HG4.out HG5.out)) (by simp; omega) (by simp; omega))
      clear hE4 HX4 HP4 hrg1 hrg0
      go_wp2_with fail
      go_roundw
      case rel => exact ⟨_, cnt1, HR5.out, HB5, HX5, hE5, by omega⟩
      case measure => rw [HR5.out.left_eq, hrg.left_eq]; exact hlt
end Go.Proofs.YtlodaeoikkjbkaaDoor
namespace Go.Proofs.YtlodaeoikkjbkaaDoor
set_option maxRecDepth 100000
open Go.RowKit Go.Maps Go.WideMaps Go.WideElems

theorem join_at (b : Nat) (S : List (Nat × Nat)) (x y : Nat) (xi yi : Int) (w : World) (h : PS w b S) (hS : S.length < 1048576) (hx : x < 1048576) (hy : y < 1048576) (ex : xi = (x : Int)) (ey : yi = (y : Int)) :
    Calls Tryd.prog 77 #[.map (some b), .int .i64 xi, .int .i64 yi] w fun e w' => (∃ v, e = .returned v) ∧ PS w' b (S ++ [(x, y)]) ∧ w.grownBy w' (some b) := by
  subst ex; subst ey
  exact join_any b S x y w h hS hx hy
theorem gop_at (n b : Nat) (N : Int) (S : List (Nat × Nat)) (w : World) (h : PS w b S) (hn : n ≤ 62) (hS : ∀ p, p ∈ S → p.1 < n ∧ p.2 < n) (eN : N = (n : Int)) :
    Calls Tryd.prog 78 #[.int .i64 N, .map (some b)] w fun e w' => GRet w.heap.size n (rowsF n (adjS S)) e w' ∧ Below w.heap.size w w' := by
  subst eN
  exact gop_any n b S w h hn hS

end Go.Proofs.YtlodaeoikkjbkaaDoor
namespace Go.Proofs.YtlodaeoikkjbkaaDoor
set_option maxRecDepth 100000
open Go.RowKit Go.Maps Go.WideMaps Go.WideElems

/-- The pairs (v, x), v below k, that f tells; the pairs v < x below n that f tells. -/
def inS (f : Nat → Nat → Bool) (x : Nat) : Nat → List (Nat × Nat)
  | 0 => []
  | v + 1 => if f v x then inS f x v ++ [(v, x)] else inS f x v
def whereS (f : Nat → Nat → Bool) : Nat → List (Nat × Nat)
  | 0 => []
  | x + 1 => whereS f x ++ inS f x x
theorem inS_yes {f : Nat → Nat → Bool} {x v : Nat} (h : f v x = true) : inS f x (v + 1) = inS f x v ++ [(v, x)] := by simp [inS, h]
theorem inS_no {f : Nat → Nat → Bool} {x v : Nat} (h : f v x = false) : inS f x (v + 1) = inS f x v := by simp [inS, h]
theorem inS_length (f : Nat → Nat → Bool) (x : Nat) : ∀ k, (inS f x k).length ≤ k
  | 0 => Nat.le_refl _
  | k + 1 => by
    have h := inS_length f x k
    cases e : f k x with
    | true => rw [inS_yes e]; simp; omega
    | false => rw [inS_no e]; omega
theorem inS_mem (f : Nat → Nat → Bool) (x : Nat) : ∀ k p, p ∈ inS f x k → p.1 < k ∧ p.2 = x
  | 0, p, h => by simp [inS] at h
  | k + 1, p, h => by
    cases e : f k x with
    | true =>
      rw [inS_yes e, List.mem_append, List.mem_singleton] at h
      rcases h with h | rfl
      · have := inS_mem f x k p h; omega
      · exact ⟨Nat.lt_succ_self _, rfl⟩
    | false =>
      rw [inS_no e] at h
      have := inS_mem f x k p h; omega
theorem whereS_mem (f : Nat → Nat → Bool) : ∀ n p, p ∈ whereS f n → p.1 < n ∧ p.2 < n
  | 0, p, h => by simp [whereS] at h
  | n + 1, p, h => by
    rw [whereS, List.mem_append] at h
    rcases h with h | h
    · have := whereS_mem f n p h; omega
    · have := inS_mem f n n p h; omega
theorem whereS_length (f : Nat → Nat → Bool) : ∀ n, n ≤ 62 → (whereS f n).length ≤ 62 * n
  | 0, _ => Nat.le_refl _
  | n + 1, h => by
    have h1 := whereS_length f n (by omega)
    have h2 := inS_length f n n
    rw [whereS, List.length_append]; omega

set_option maxHeartbeats 3200000 in
set_option maxRecDepth 100000 in
theorem where_any (fid : FuncId) (p1 p2 : Value) (f : Nat → Nat → Bool) (n : Nat) (w : World) (hn : n ≤ 62) (eg : ∀ args W, (callFunc fid args).run Tryd.prog W = .ok (.enter fid args) W)
    (hJ : ∀ (v x : Nat) (W : World), v < x → x < n → Below w.heap.size w W → Calls Tryd.prog fid #[.int .i64 v, .int .i64 x, p1, p2] W fun e w' => e = .returned (.bool (f v x)) ∧ Below W.heap.size W w') :
    Calls Tryd.prog 57 #[.int .i64 n, .func (.func fid) #[] #[p1, p2]] w fun e w' => GRet w.heap.size n (rowsF n (adjS (whereS f n))) e w' ∧ Below w.heap.size w w' := by
  have hmm := @run_makeMap Tryd.prog
  have D0 : Below w.heap.size w ((w.alloc (.cells #[.int .i64 0, .slice none 0 0] 28)).alloc (.map #[] 0)) := ((Below.refl _ _).alloc (Nat.le_refl _) _).alloc (by simp) _
  have HH := Lib.hid (heap_old_at (World.alloc_heap_new w (.cells #[.int .i64 0, .slice none 0 0] 28)) (.map #[] 0))
  have HP0 := Lib.hid (PS.made (w.alloc (.cells #[.int .i64 0, .slice none 0 0] 28)))
  obtain ⟨W, hW⟩ : ∃ W, W = ((w.alloc (.cells #[.int .i64 0, .slice none 0 0] 28)).alloc (.map #[] 0)) := ⟨_, rfl⟩
  have hsz : w.heap.size + 2 ≤ W.heap.size := by rw [hW]; simp
  rw [← hW] at D0 HH HP0
  rw [World.size_alloc] at HP0
  have HJ := Lib.hid hJ
  clear hJ
  go_enter Tryd.func57, Tryd.ntmps57
  go_wp2_with fail
  rw [← hW]
  clear hW hmm
  go_loopw [10] (fun i wr => ∃ x : Nat, x ≤ n ∧ i = .int .i64 x ∧ Hid (PS wr (w.heap.size + 1) (whereS f x)) ∧ Below (w.heap.size + 1) W wr ∧ W.heap.size ≤ wr.heap.size) (fun i _ => n - (intOf i).toNat)
  case atStart => exact ⟨0, Nat.zero_le _, rfl, HP0, Below.refl _ _, Nat.le_refl _⟩
  case round =>
    obtain ⟨x, hx, rfl, HP, hE, hs⟩ := hrel
    by_cases hlt : x < n
    · go_wp2_with fail
      obtain ⟨wo, rfl⟩ : ∃ wo : World, wo = wr := ⟨_, rfl⟩
      have HPI : Hid (PS wo (w.heap.size + 1) (whereS f x ++ inS f x 0)) := by show PS _ _ _; rw [show whereS f x ++ inS f x 0 = whereS f x by simp [inS]]; exact HP.out
      go_loopw [14] (fun i wr => ∃ v : Nat, v ≤ x ∧ i = .int .i64 v ∧ Hid (PS wr (w.heap.size + 1) (whereS f x ++ inS f x v)) ∧ Below (w.heap.size + 1) W wr ∧ W.heap.size ≤ wr.heap.size) (fun i _ => x - (intOf i).toNat)
      case atStart => exact ⟨0, Nat.zero_le _, rfl, HPI, hE, hs⟩
      case round =>
        obtain ⟨v, hv, rfl, HQ, hF, ht⟩ := hrel
        by_cases hlv : v < x
        · have hcon := HJ.out v x wr hlv hlt (D0.trans (hF.mono (by omega)))
          have hL1 := whereS_length f x (by omega)
          have hL2 := inS_length f x v
          have hLL : (whereS f x ++ inS f x v).length < 1048576 := by rw [List.length_append]; omega
          have HJN := Lib.hid (fun W1 h => join_at (w.heap.size + 1) (whereS f x ++ inS f x v) v x (v : Int) (x : Int) W1 h hLL (by omega) (by omega) rfl rfl)
          clear hL1 hL2 hLL
          cases hr : f v x with
          | true =>
            rw [hr] at hcon
            have HC := Lib.hid hcon
            have HN : Hid (whereS f x ++ inS f x (v + 1) = (whereS f x ++ inS f x v) ++ [(v, x)]) := by show _ = _; rw [inS_yes hr, List.append_assoc]
            clear hcon hr
            go_wp2_with fail
            refine HC.out.mono ?_
            rintro e w1 ⟨rfl, hb1⟩
            have HQ1 := Lib.hid (HQ.out.below hb1)
            have hF1 := hF.trans (hb1.mono (by omega))
            have t1 := hb1.size
            have h1 := hF.size
            clear hb1 HQ hF
            go_wp2_with fail
            refine (HJN.out _ HQ1.out).mono ?_
            rintro e w2 ⟨⟨v2, rfl⟩, hP2, hg2⟩
            have hF2 := hF1.grown hg2 (by omega) (fun j e => by cases e; omega)
            have t2 := hg2.size
            have HP2 : Hid (PS w2 (w.heap.size + 1) (whereS f x ++ inS f x (v + 1))) := by show PS _ _ _; rw [HN.out]; exact hP2
            clear hP2 hg2 hF1 HQ1 HJN HC
            go_wp2_with fail
            go_roundw
            case rel => exact ⟨v + 1, by omega, by go_num, HP2, hF2, by omega⟩
            case measure => simp [intOf]; omega
          | false =>
            rw [hr] at hcon
            have HC := Lib.hid hcon
            have HN : Hid (whereS f x ++ inS f x (v + 1) = whereS f x ++ inS f x v) := by show _ = _; rw [inS_no hr]
            clear hcon hr
            go_wp2_with fail
            refine HC.out.mono ?_
            rintro e w1 ⟨rfl, hb1⟩
            have HQ1 : Hid (PS w1 (w.heap.size + 1) (whereS f x ++ inS f x (v + 1))) := by show PS _ _ _; rw [HN.out]; exact HQ.out.below hb1
            have hF1 := hF.trans (hb1.mono (by omega))
            have t1 := hb1.size
            clear hb1 HQ hF HJN HC
            go_wp2_with fail
            go_roundw
            case rel => exact ⟨v + 1, by omega, by go_num, HQ1, hF1, by omega⟩
            case measure => simp [intOf]; omega
        · obtain rfl : v = x := by omega
          have HQ1 : Hid (PS wr (w.heap.size + 1) (whereS f (v + 1))) := HQ.out
          go_wp2_with fail
          go_roundw
          case rel => exact ⟨v + 1, by omega, by go_num, HQ1, hF, ht⟩
          case measure => simp [intOf]; omega
    · obtain rfl : x = n := by omega
      have hgo := Lib.hid (gop_at x (w.heap.size + 1) (x : Int) (whereS f x) wr HP.out hn (whereS_mem f x) rfl)
      have RB0 := Lib.hid ((hE.block w.heap.size (by omega)).trans HH.out)
      clear HP
      go_wp2_with fail
      refine hgo.out.mono ?_
      rintro e w1 ⟨⟨g, rfl, hB, hg⟩, hb1⟩
      have RB := Lib.hid ((hb1.block w.heap.size (by omega)).trans RB0.out)
      obtain ⟨r0, r1, g0, g1⟩ := two_cells RB.out
      have HB := Lib.hid hB
      have hE1 := hE.trans (hb1.mono (by omega))
      clear hB hb1 hE hgo RB0
      go_wp2_with fail
      have hfin := two_set (a := .int .i64 x) (b := .slice (some ⟨g, 0, none⟩) x x) RB.out
      refine bodyPost_ret (v := .agg #[.int .i64 x, .slice (some ⟨g, 0, none⟩) x x]) (results_cell_row (p := 4) (ty := 28) rfl _ _ w.heap.size 28 _ (0, 0) _ rfl hfin Tryd.underlying28 rfl (by exact info27)) rfl ⟨⟨_, rfl, ?_, by omega⟩, ?_⟩
      · exact (HB.out.other (by simp; omega) _).other (by simp; omega) _
      · exact ((D0.trans (hE1.mono (by omega))).setCell (p := ⟨w.heap.size, 0, none⟩) (by simp) _).setCell (p := ⟨w.heap.size, 1, none⟩) (by simp) _
end Go.Proofs.YtlodaeoikkjbkaaDoor
namespace Go.Proofs.YtlodaeoikkjbkaaDoor
set_option maxRecDepth 100000
open Go.RowKit Go.Maps Go.WideMaps Go.WideElems

theorem hmkf : ∀ (fn : Fn) (first cap : Array Value) (w : World), (Instr.makeFunc fn first cap).run Tryd.prog w = .ok (.func fn first cap) w := fun _ _ _ _ => rfl
theorem inS_iff (f : Nat → Nat → Bool) (x : Nat) : ∀ k p, p ∈ inS f x k ↔ p.1 < k ∧ p.2 = x ∧ f p.1 x = true
  | 0, p => by simp [inS]
  | k + 1, p => by
    have ih := inS_iff f x k p
    cases e : f k x with
    | true =>
      rw [inS_yes e, List.mem_append, List.mem_singleton, ih]
      constructor
      · rintro (⟨h1, h2, h3⟩ | rfl)
        · exact ⟨by omega, h2, h3⟩
        · exact ⟨Nat.lt_succ_self _, rfl, e⟩
      · rintro ⟨h1, h2, h3⟩
        by_cases h : p.1 = k
        · exact .inr (Prod.ext h h2)
        · exact .inl ⟨by omega, h2, h3⟩
    | false =>
      rw [inS_no e, ih]
      constructor
      · rintro ⟨h1, h2, h3⟩
        exact ⟨by omega, h2, h3⟩
      · rintro ⟨h1, h2, h3⟩
        refine ⟨?_, h2, h3⟩
        by_cases h : p.1 = k
        · rw [h, e] at h3; cases h3
        · omega
theorem whereS_iff (f : Nat → Nat → Bool) : ∀ n p, p ∈ whereS f n ↔ p.1 < p.2 ∧ p.2 < n ∧ f p.1 p.2 = true
  | 0, p => by simp [whereS]
  | n + 1, p => by
    rw [whereS, List.mem_append, whereS_iff f n p, inS_iff f n n p]
    constructor
    · rintro (⟨h1, h2, h3⟩ | ⟨h1, h2, h3⟩)
      · exact ⟨h1, by omega, h3⟩
      · rw [h2]; exact ⟨h1, by omega, h3⟩
    · rintro ⟨h1, h2, h3⟩
      by_cases h : p.2 = n
      · rw [h] at h1 h3; exact .inr ⟨h1, h, h3⟩
      · exact .inl ⟨h1, by omega, h3⟩

/-- Vertices of two kinds. -/
def kF (n : Nat) (f : Nat → Nat → Bool) : Nat → Nat → Bool := fun v x => decide (v < n) && (decide (n ≤ x) && f v (x - n))

end Go.Proofs.YtlodaeoikkjbkaaDoor
namespace Go.Proofs.YtlodaeoikkjbkaaDoor
set_option maxRecDepth 100000
open Go.RowKit

theorem specEmpty_at (N : Int) (len : Nat) (w : World) (hl : len ≤ 1048576) (eN : N = (len : Int)) :
    Calls Tryd.prog 47 #[.int .i64 N] w fun e w' => e = .returned (.agg #[.int .i64 len, .slice (some ⟨w.heap.size + 1, 0, none⟩) len len]) ∧ Blk w' (w.heap.size + 1) (List.replicate len 0) ∧ Below w.heap.size w w' := by
  subst eN
  exact specEmpty_any len w hl


set_option maxHeartbeats 1600000 in
theorem with_some (N : Int) (g m : Nat) (L : List Int) (a b : Nat) (w : World) (hm : L.length = m) (h : Blk w g L) (ha : a < m) (hb : b < m) (hl : m ≤ 62) (hz : ∀ i, i < m → 0 ≤ el L i ∧ el L i ≤ 2 ^ m - 1) :
    Calls Tryd.prog 48 #[.agg #[.int .i64 N, .slice (some ⟨g, 0, none⟩) m m], .int .i64 a, .int .i64 b] w fun e w' => e = .returned (.agg #[.int .i64 N, .slice (some ⟨g, 0, none⟩) m m]) ∧ Blk w' g (e_putL L a b) ∧ w.grownBy w' (some g) := by
  obtain ⟨W, hW⟩ : ∃ W, W = (w.alloc (.cells #[.int .i64 N, .slice (some ⟨g, 0, none⟩) m m] 28)).alloc (.cells #[.int .i64 0, .slice none 0 0] 28) := ⟨_, rfl⟩
  have HH : Hid (W.heap[w.heap.size]? = some (.cells #[.int .i64 N, .slice (some ⟨g, 0, none⟩) m m] 28 (0, 0))) := by rw [hW]; exact heap_old_at (World.alloc_heap_new w _) _
  have HR : Hid (W.heap[w.heap.size + 1]? = some (.cells #[.int .i64 0, .slice none 0 0] 28 (0, 0))) := by rw [hW]; exact heap_new_at _ _ _ (by simp)
  have HO : Hid (Blk W g L) := by rw [hW]; exact (h.alloc _).alloc _
  have HGr : Hid (w.grownBy W (some g)) := by rw [hW]; exact grown_trans (World.grownBy_alloc w _ _) (World.grownBy_alloc _ _ _)
  have hgl := h.lt
  have pm := pow_bounds m hl
  have hza := hz a ha
  have hL1 : (put1 L a b).length = m := by rw [put1_length]; exact hm
  have hzb : 0 ≤ el (put1 L a b) b ∧ el (put1 L a b) b ≤ 2 ^ m - 1 := by
    unfold put1
    by_cases e : a = b
    · subst e; rw [e_el_set_same _ _ _ (by omega)]; exact e_por_ok _ _ _ hza.2 ha
    · rw [e_el_set_ne _ _ _ _ e]; exact hz b hb
  have P1 := Lib.hid (e_por_or (el L a) b hza.1 (by omega) (by omega))
  have P2 := Lib.hid (e_por_or (el (put1 L a b) b) a hzb.1 (by omega) (by omega))
  have HM := Lib.hid hm; have HL1 := Lib.hid hL1
  clear h hm hL1
  go_enter Tryd.func48, Tryd.ntmps48
  obtain ⟨b0, b1, -, -⟩ := two_cells HH.out
  have c1 := HO.out.cell (i := a) (by rw [HM.out]; exact ha)
  have f1 : W.frozen? ⟨g, a, none⟩ = false := HO.out.frozen a
  have ha0 : (0 : Int) ≤ a := by omega
  have hb0 : (0 : Int) ≤ b := by omega
  have ham : (a : Int) < m := by omega
  have hbm : (b : Int) < m := by omega
  have qa := pow_bounds a (by omega)
  have qb := pow_bounds b (by omega)
  go_wp2_with fail
  rw [← hW]
  clear hW
  go_region
  rw [P1.out]
  obtain ⟨W2, hW2⟩ : ∃ W2, W2 = (W.setCell ⟨g, a, none⟩ (.int .i64 (e_por (el L a) b))).drew := ⟨_, rfl⟩
  have HO2 : Hid (Blk W2 g (put1 L a b)) := by rw [hW2]; exact HO.out.set a _
  have HG2 : Hid (W.grownBy W2 (some g)) := by rw [hW2]; exact grown_trans (grown_set ⟨rfl, rfl, rfl, Nat.le_refl _, fun _ _ _ => rfl⟩ _ a _) (e_grown_drew _ _)
  have HH2 := Lib.hid ((HG2.out.block w.heap.size (Array.getElem?_eq_some_iff.1 HH.out).1 (by simp; omega)).trans HH.out)
  have HR2 := Lib.hid ((HG2.out.block (w.heap.size + 1) (Array.getElem?_eq_some_iff.1 HR.out).1 (by simp; omega)).trans HR.out)
  rw [← hW2]
  clear hW2 b0 b1 c1 f1
  obtain ⟨b0, b1, -, -⟩ := two_cells HH2.out
  have c2 := HO2.out.cell (i := b) (by rw [HL1.out]; exact hb)
  have f2 : W2.frozen? ⟨g, b, none⟩ = false := HO2.out.frozen b
  go_wp2_with fail
  go_region
  rw [P2.out]
  obtain ⟨W3, hW3⟩ : ∃ W3, W3 = (W2.setCell ⟨g, b, none⟩ (.int .i64 (e_por (el (put1 L a b) b) a))).drew := ⟨_, rfl⟩
  have HO3 : Hid (Blk W3 g (e_putL L a b)) := by rw [hW3]; exact HO2.out.set b _
  have HG3 : Hid (W2.grownBy W3 (some g)) := by rw [hW3]; exact grown_trans (grown_set ⟨rfl, rfl, rfl, Nat.le_refl _, fun _ _ _ => rfl⟩ _ b _) (e_grown_drew _ _)
  have HH3 := Lib.hid ((HG3.out.block w.heap.size (Array.getElem?_eq_some_iff.1 HH2.out).1 (by simp; omega)).trans HH2.out)
  have HR3 := Lib.hid ((HG3.out.block (w.heap.size + 1) (Array.getElem?_eq_some_iff.1 HR2.out).1 (by simp; omega)).trans HR2.out)
  rw [← hW3]
  clear hW3 b0 b1 c2 f2
  obtain ⟨b0, b1, -, -⟩ := two_cells HH3.out
  obtain ⟨r0, r1, g0, g1⟩ := two_cells HR3.out
  go_wp2_with fail
  have hfin := two_set (a := .int .i64 N) (b := .slice (some ⟨g, 0, none⟩) m m) HR3.out
  refine bodyPost_ret (v := .agg #[.int .i64 N, .slice (some ⟨g, 0, none⟩) m m]) (results_cell_row (p := 6) (ty := 28) rfl _ _ (w.heap.size + 1) 28 _ (0, 0) _ rfl hfin Tryd.underlying28 rfl (by exact info27)) rfl ⟨rfl, ?_, ?_⟩
  · exact (HO3.out.other (by simp; omega) _).other (by simp; omega) _
  · have hg3 := grown_trans HGr.out (grown_trans HG2.out HG3.out)
    have hb3 : Below w.heap.size W3 ((W3.setCell ⟨w.heap.size + 1, 0, none⟩ (.int .i64 N)).setCell ⟨w.heap.size + 1, 1, none⟩ (.slice (some ⟨g, 0, none⟩) m m)) := ((Below.refl _ _).setCell (p := ⟨w.heap.size + 1, 0, none⟩) (by simp) _).setCell (p := ⟨w.heap.size + 1, 1, none⟩) (by simp) _
    exact ⟨hb3.os.trans hg3.os, hb3.tape.trans hg3.tape, hb3.output.trans hg3.output, Nat.le_trans hg3.size hb3.size, fun k hk hne => (hb3.block k hk).trans (hg3.block k hk hne)⟩

theorem with_at (N : Int) (g m : Nat) (S : List (Nat × Nat)) (a b : Nat) (ai bi : Int) (w : World) (h : Blk w g (rowsF m (adjS S))) (ha : a < m) (hb : b < m) (hl : m ≤ 62) (ea : ai = (a : Int)) (eb : bi = (b : Int)) :
    Calls Tryd.prog 48 #[.agg #[.int .i64 N, .slice (some ⟨g, 0, none⟩) m m], .int .i64 ai, .int .i64 bi] w fun e w' => e = .returned (.agg #[.int .i64 N, .slice (some ⟨g, 0, none⟩) m m]) ∧ Blk w' g (rowsF m (adjS (S ++ [(a, b)]))) ∧ w.grownBy w' (some g) := by
  subst ea; subst eb
  have := with_some N g m _ a b w (rowsF_length _ _) h ha hb hl (fun i hi => rowsF_bd m _ i hi)
  rw [rows_snoc m S a b ha hb] at this
  exact this
/-- The pairs (i, n + k) that f tells, in the order of the model's loops. -/
def inK (f : Nat → Nat → Bool) (n i : Nat) : Nat → List (Nat × Nat)
  | 0 => []
  | k + 1 => if f i k then inK f n i k ++ [(i, n + k)] else inK f n i k
def kS (f : Nat → Nat → Bool) (n : Nat) : Nat → List (Nat × Nat)
  | 0 => []
  | i + 1 => kS f n i ++ inK f n i n
theorem inK_yes {f : Nat → Nat → Bool} {n i k : Nat} (h : f i k = true) : inK f n i (k + 1) = inK f n i k ++ [(i, n + k)] := by simp [inK, h]
theorem inK_no {f : Nat → Nat → Bool} {n i k : Nat} (h : f i k = false) : inK f n i (k + 1) = inK f n i k := by simp [inK, h]
theorem inK_iff (f : Nat → Nat → Bool) (n i : Nat) : ∀ k p, p ∈ inK f n i k ↔ p.1 = i ∧ n ≤ p.2 ∧ p.2 < n + k ∧ f i (p.2 - n) = true
  | 0, p => by
    simp only [inK, List.not_mem_nil, false_iff]
    omega
  | k + 1, p => by
    have ih := inK_iff f n i k p
    cases e : f i k with
    | true =>
      rw [inK_yes e, List.mem_append, List.mem_singleton, ih]
      constructor
      · rintro (⟨h1, h2, h3, h4⟩ | rfl)
        · exact ⟨h1, h2, by omega, h4⟩
        · exact ⟨rfl, by simp only; omega, by simp only; omega, by simp only [Nat.add_sub_cancel_left]; exact e⟩
      · rintro ⟨h1, h2, h3, h4⟩
        by_cases h : p.2 = n + k
        · exact .inr (Prod.ext h1 h)
        · exact .inl ⟨h1, h2, by omega, h4⟩
    | false =>
      rw [inK_no e, ih]
      constructor
      · rintro ⟨h1, h2, h3, h4⟩
        exact ⟨h1, h2, by omega, h4⟩
      · rintro ⟨h1, h2, h3, h4⟩
        refine ⟨h1, h2, ?_, h4⟩
        by_cases h : p.2 = n + k
        · rw [h, Nat.add_sub_cancel_left, e] at h4; cases h4
        · omega
theorem kS_iff (f : Nat → Nat → Bool) (n : Nat) : ∀ m p, p ∈ kS f n m ↔ p.1 < m ∧ n ≤ p.2 ∧ p.2 < n + n ∧ f p.1 (p.2 - n) = true
  | 0, p => by simp [kS]
  | m + 1, p => by
    rw [kS, List.mem_append, kS_iff f n m p, inK_iff f n m n p]
    constructor
    · rintro (⟨h1, h2⟩ | ⟨h1, h2⟩)
      · exact ⟨by omega, h2⟩
      · rw [h1]; exact ⟨Nat.lt_succ_self _, h2⟩
    · rintro ⟨h1, h2⟩
      by_cases h : p.1 = m
      · rw [h] at h2; exact .inr ⟨h, h2⟩
      · exact .inl ⟨by omega, h2⟩
theorem adjS_congr {S T : List (Nat × Nat)} (h : ∀ p, p ∈ S ↔ p ∈ T) : adjS S = adjS T := by
  funext v w
  rw [Bool.eq_iff_iff, adjS_iff, adjS_iff]
  exact ⟨fun ⟨p, hp, r⟩ => ⟨p, (h p).1 hp, r⟩, fun ⟨p, hp, r⟩ => ⟨p, (h p).2 hp, r⟩⟩
theorem kinds_same (f : Nat → Nat → Bool) (n : Nat) : adjS (kS f n n) = adjS (whereS (kF n f) (2 * n)) := adjS_congr fun p => by
  rw [kS_iff, whereS_iff]
  unfold kF
  simp only [Bool.and_eq_true, decide_eq_true_eq]
  constructor
  · rintro ⟨h1, h2, h3, h4⟩
    exact ⟨by omega, by omega, h1, h2, h4⟩
  · rintro ⟨h1, h2, h3, h4, h5⟩
    exact ⟨h3, h4, by omega, h5⟩

end Go.Proofs.YtlodaeoikkjbkaaDoor
