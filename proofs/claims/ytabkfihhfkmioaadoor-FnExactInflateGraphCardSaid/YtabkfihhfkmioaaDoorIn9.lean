/-
  Inflated graphs: plain facts; graphWhere over a closure of one captured variable; the codes of one graph and of a size.
-/
import Derived.Test.YtabkfihhfkmioaaDoorLn8
import Derived.Test.YtabkfihhfkmioaaDoorUfT
namespace Go.Proofs.YtabkfihhfkmioaaDoor
set_option maxRecDepth 100000
open Go.RowKit Go.Maps Go.WideMaps Go.WideElems

/-- Vertices i and j of an inflated graph are joined. -/
def infF (P : List (Nat × Nat)) (i j : Nat) : Bool := (prA P i).1 == (prA P j).1 || ((prA P i).1 == (prA P j).2 && (prA P i).2 == (prA P j).1)
theorem infF_symm (P : List (Nat × Nat)) (i j : Nat) : infF P i j = infF P j i := by
  unfold infF
  rw [Bool.eq_iff_iff]
  simp only [Bool.or_eq_true, Bool.and_eq_true, beq_iff_eq]
  constructor <;> intro h <;> omega
def ifOk (n : Int) (zs : List Int) : Bool := isG n zs && decide (1 ≤ (acP zs zs.length).length ∧ (acP zs zs.length).length ≤ 62)
def ifN (n : Int) (zs : List Int) : Int := if ifOk n zs then ((acP zs zs.length).length : Int) else 0
def ifD (n : Int) (zs : List Int) : List Int := if ifOk n zs then rowsF (acP zs zs.length).length (adjS (whereS (infF (acP zs zs.length)) (acP zs zs.length).length)) else []
def ifC (n : Int) (zs : List Int) : Int := if isG n zs then (if 1 ≤ (acP zs zs.length).length ∧ (acP zs zs.length).length ≤ 62 then 0 else 3) else 1
theorem ifD_length (n : Int) (zs : List Int) : (ifD n zs).length ≤ 62 := by
  unfold ifD
  split
  · rename_i h
    unfold ifOk at h
    simp only [Bool.and_eq_true, decide_eq_true_eq] at h
    rw [rowsF_length]; exact h.2.2
  · simp
theorem isD_ofG {n : Int} {zs : List Int} (h : isG n zs = true) : isD n zs = true := by
  obtain ⟨h1, h2, h3, h4, -⟩ := isG_parts h
  refine isD_mk h1 h2 h3 ?_
  unfold drTo
  rw [List.all_eq_true]
  intro i hi
  have q := rowsOk_at h4 (List.mem_range.1 hi)
  exact (drB_iff _ _).2 ⟨rowOk_ge q, rowOk_le q⟩

/-- The pairs before vertex v, and the first k of its own. -/
def inW (zs : List Int) (v k : Nat) : List (Nat × Nat) := acP zs v ++ ((mem (nat zs v)).take k).map fun y => (v, y)
theorem inW_start (zs : List Int) (v : Nat) : inW zs v 0 = acP zs v := by simp [inW]
theorem inW_end (zs : List Int) (v : Nat) : inW zs v (mem (nat zs v)).length = acP zs (v + 1) := by rw [inW, List.take_length]; rfl
theorem inW_succ (zs : List Int) (v k : Nat) (h : k < (mem (nat zs v)).length) : inW zs v (k + 1) = inW zs v k ++ [(v, (mem (nat zs v)).getD k 0)] := by
  unfold inW
  rw [List.take_succ_eq_append_getElem h, List.map_append, ← List.append_assoc]
  simp [h]
theorem inW_len (zs : List Int) (v k : Nat) (hv : v ≤ 62) : (inW zs v k).length ≤ 4100 := by
  have h1 := acP_len zs v
  have h2 : ((mem (nat zs v)).take k).length ≤ 64 := by rw [List.length_take]; have := mem_len64P (nat zs v); omega
  unfold inW
  rw [List.length_append, List.length_map]
  omega
theorem nbL_mem {zs : List Int} {v : Nat} (hl : zs.length ≤ 62) (h : nat zs v < 2 ^ zs.length) : nbL zs v zs.length = (mem (nat zs v)).map fun j : Nat => (j : Int) := by
  rw [mem_to (nat zs v) zs.length h (by omega)]
  rfl
theorem el_nbM (M : List Nat) (k : Nat) : el (M.map fun j : Nat => (j : Int)) k = ((M.getD k 0 : Nat) : Int) := by
  unfold el
  rw [List.getD_eq_getElem?_getD, List.getD_eq_getElem?_getD, List.getElem?_map]
  cases M[k]? <;> rfl

def swS (S : List (Nat × Nat)) : List (Nat × Nat) := S.map fun p => (p.2, p.1)
theorem adjS_sw (S : List (Nat × Nat)) : adjS (swS S) = adjS S := by
  funext v w
  rw [Bool.eq_iff_iff, adjS_iff, adjS_iff]
  constructor
  · rintro ⟨p, hp, h1, h2⟩
    obtain ⟨r, hr, rfl⟩ := List.mem_map.1 hp
    exact ⟨r, hr, by simp only at h1; omega, by simp only at h2; omega⟩
  · rintro ⟨p, hp, h1, h2⟩
    exact ⟨(p.2, p.1), List.mem_map.2 ⟨p, hp, rfl⟩, by simp only; omega, by simp only; omega⟩
theorem swS_snoc (S : List (Nat × Nat)) (a b : Nat) : swS (S ++ [(a, b)]) = swS S ++ [(b, a)] := by simp [swS]

theorem hmkf9 : ∀ (fn : Fn) (first cap : Array Value) (w : World), (Instr.makeFunc fn first cap).run Tryd.prog w = .ok (.func fn first cap) w := fun _ _ _ _ => rfl

set_option maxHeartbeats 3200000 in
set_option maxRecDepth 100000 in
theorem where1_any (fid : FuncId) (p1 : Value) (f : Nat → Nat → Bool) (n : Nat) (w : World) (hn : n ≤ 62) (eg : ∀ args W, (callFunc fid args).run Tryd.prog W = .ok (.enter fid args) W)
    (hJ : ∀ (v x : Nat) (W : World), v < x → x < n → Below w.heap.size w W → Calls Tryd.prog fid #[.int .i64 v, .int .i64 x, p1] W fun e w' => e = .returned (.bool (f v x)) ∧ Below W.heap.size W w') :
    Calls Tryd.prog 76 #[.int .i64 n, .func (.func fid) #[] #[p1]] w fun e w' => GRet w.heap.size n (rowsF n (adjS (whereS f n))) e w' ∧ Below w.heap.size w w' := by
  have hmm := @run_makeMap Tryd.prog
  have D0 : Below w.heap.size w ((w.alloc (.cells #[.int .i64 0, .slice none 0 0] 26)).alloc (.map #[] 0)) := ((Below.refl _ _).alloc (Nat.le_refl _) _).alloc (by simp) _
  have HH := Lib.hid (heap_old_at (World.alloc_heap_new w (.cells #[.int .i64 0, .slice none 0 0] 26)) (.map #[] 0))
  have HP0 := Lib.hid (PS.made (w.alloc (.cells #[.int .i64 0, .slice none 0 0] 26)))
  obtain ⟨W, hW⟩ : ∃ W, W = ((w.alloc (.cells #[.int .i64 0, .slice none 0 0] 26)).alloc (.map #[] 0)) := ⟨_, rfl⟩
  have hsz : w.heap.size + 2 ≤ W.heap.size := by rw [hW]; simp
  rw [← hW] at D0 HH HP0
  rw [World.size_alloc] at HP0
  have HJ := Lib.hid hJ
  clear hJ
  go_enter Tryd.func76, Tryd.ntmps76
  go_wp2_with fail
  rw [← hW]
  clear hW hmm
  go_loopw [10] (fun i wr => ∃ x : Nat, x ≤ n ∧ i = .int .i64 x ∧ Hid (PS wr (w.heap.size + 1) (whereS f x)) ∧ Below (w.heap.size + 1) W wr ∧ W.heap.size ≤ wr.heap.size) (fun i _ => n - (intOf i).toNat)
  case atStart => exact ⟨0, Nat.zero_le _, rfl, HP0, Below.refl _ _, Nat.le_refl _⟩
  case round =>
    obtain ⟨x, hx, rfl, HP, hE, hs⟩ := hrel
    by_cases hlt : x < n
    · go_wp2_with fail
      obtain ⟨wo, rfl⟩ : ∃ wo : World, wo = wr := ⟨_, rfl⟩
      have HPI : Hid (PS wo (w.heap.size + 1) (whereS f x ++ inS f x 0)) := by show PS _ _ _; rw [show whereS f x ++ inS f x 0 = whereS f x by simp [inS]]; exact HP.out
      go_loopw [14] (fun i wr => ∃ v : Nat, v ≤ x ∧ i = .int .i64 v ∧ Hid (PS wr (w.heap.size + 1) (whereS f x ++ inS f x v)) ∧ Below (w.heap.size + 1) W wr ∧ W.heap.size ≤ wr.heap.size) (fun i _ => x - (intOf i).toNat)
      case atStart => exact ⟨0, Nat.zero_le _, rfl, HPI, hE, hs⟩
      case round =>
        obtain ⟨v, hv, rfl, HQ, hF, ht⟩ := hrel
        by_cases hlv : v < x
        · have hcon := HJ.out v x wr hlv hlt (D0.trans (hF.mono (by omega)))
          have hL1 := whereS_length f x (by omega)
          have hL2 := inS_length f x v
          have hLL : (whereS f x ++ inS f x v).length < 1048576 := by rw [List.length_append]; omega
          have HJN := Lib.hid (fun W1 h => join_at (w.heap.size + 1) (whereS f x ++ inS f x v) v x (v : Int) (x : Int) W1 h hLL (by omega) (by omega) rfl rfl)
          clear hL1 hL2 hLL
          cases hr : f v x with
          | true =>
            rw [hr] at hcon
            have HC := Lib.hid hcon
            have HN : Hid (whereS f x ++ inS f x (v + 1) = (whereS f x ++ inS f x v) ++ [(v, x)]) := by show _ = _; rw [inS_yes hr, List.append_assoc]
            clear hcon hr
            go_wp2_with fail
            refine HC.out.mono ?_
            rintro e w1 ⟨rfl, hb1⟩
            have HQ1 := Lib.hid (HQ.out.below hb1)
            have hF1 := hF.trans (hb1.mono (by omega))
            have t1 := hb1.size
            have h1 := hF.size
            clear hb1 HQ hF
            go_wp2_with fail
            refine (HJN.out _ HQ1.out).mono ?_
            rintro e w2 ⟨⟨v2, rfl⟩, hP2, hg2⟩
            have hF2 := hF1.grown hg2 (by omega) (fun j e => by cases e; omega)
            have t2 := hg2.size
            have HP2 : Hid (PS w2 (w.heap.size + 1) (whereS f x ++ inS f x (v + 1))) := by show PS _ _ _; rw [HN.out]; exact hP2
            clear hP2 hg2 hF1 HQ1 HJN HC
            go_wp2_with fail
            go_roundw
            case rel => exact ⟨v + 1, by omega, by go_num, HP2, hF2, by omega⟩
            case measure => simp [intOf]; omega
          | false =>
            rw [hr] at hcon
            have HC := Lib.hid hcon
            have HN : Hid (whereS f x ++ inS f x (v + 1) = whereS f x ++ inS f x v) := by show _ = _; rw [inS_no hr]
            clear hcon hr
            go_wp2_with fail
            refine HC.out.mono ?_
            rintro e w1 ⟨rfl, hb1⟩
            have HQ1 : Hid (PS w1 (w.heap.size + 1) (whereS f x ++ inS f x (v + 1))) := by show PS _ _ _; rw [HN.out]; exact HQ.out.below hb1
            have hF1 := hF.trans (hb1.mono (by omega))
            have t1 := hb1.size
            clear hb1 HQ hF HJN HC
            go_wp2_with fail
            go_roundw
            case rel => exact ⟨v + 1, by omega, by go_num, HQ1, hF1, by omega⟩
            case measure => simp [intOf]; omega
        · obtain rfl : v = x := by omega
          have HQ1 : Hid (PS wr (w.heap.size + 1) (whereS f (v + 1))) := HQ.out
          go_wp2_with fail
          go_roundw
          case rel => exact ⟨v + 1, by omega, by go_num, HQ1, hF, ht⟩
          case measure => simp [intOf]; omega
    · obtain rfl : x = n := by omega
      have hgo := Lib.hid (gop_at x (w.heap.size + 1) (x : Int) (whereS f x) wr HP.out hn (whereS_mem f x) rfl)
      have RB0 := Lib.hid ((hE.block w.heap.size (by omega)).trans HH.out)
      clear HP
      go_wp2_with fail
      refine hgo.out.mono ?_
      rintro e w1 ⟨⟨g, rfl, hB, hg⟩, hb1⟩
      have RB := Lib.hid ((hb1.block w.heap.size (by omega)).trans RB0.out)
      obtain ⟨r0, r1, g0, g1⟩ := two_cells RB.out
      have HB := Lib.hid hB
      have hE1 := hE.trans (hb1.mono (by omega))
      clear hB hb1 hE hgo RB0
      go_wp2_with fail
      have hfin := two_set (a := .int .i64 x) (b := .slice (some ⟨g, 0, none⟩) x x) RB.out
      refine bodyPost_ret (v := .agg #[.int .i64 x, .slice (some ⟨g, 0, none⟩) x x]) (results_cell_row (p := 4) (ty := 26) rfl _ _ w.heap.size 26 _ (0, 0) _ rfl hfin Tryd.underlying26 rfl (by exact info27)) rfl ⟨⟨_, rfl, ?_, by omega⟩, ?_⟩
      · exact (HB.out.other (by simp; omega) _).other (by simp; omega) _
      · exact ((D0.trans (hE1.mono (by omega))).setCell (p := ⟨w.heap.size, 0, none⟩) (by simp) _).setCell (p := ⟨w.heap.size, 1, none⟩) (by simp) _

set_option maxHeartbeats 400000 in
theorem told9 (x : Int) (w : World) :
    Calls Tryd.prog 52 #[.int .i64 x] w fun e w' => e = .returned (.int .i64 (if 1 ≤ x ∧ x ≤ 62 then 0 else 3)) ∧ w = w' := by
  have hin := fun W => in_any x 1 62 W
  by_cases h : 1 ≤ x ∧ x ≤ 62
  · rw [← Bool.decide_and, decide_eq_true h] at hin
    rw [if_pos h]; clear h
    go_enter Tryd.func52, Tryd.ntmps52
    go_wp2_with (go_at_call 96; refine (hin _).mono ?_; rintro e w1 ⟨rfl, rfl⟩)
    go_ret
    exact ⟨rfl, rfl⟩
  · rw [← Bool.decide_and, decide_eq_false h] at hin
    rw [if_neg h]; clear h
    go_enter Tryd.func52, Tryd.ntmps52
    go_wp2_with (go_at_call 96; refine (hin _).mono ?_; rintro e w1 ⟨rfl, rfl⟩)
    go_ret
    exact ⟨rfl, rfl⟩


set_option maxHeartbeats 1600000 in
theorem code9 (n : Int) (v : Value) (zs : List Int) (k : Nat) (w : World) (hk : w.heap[k]? = some (.cells #[.int .i64 n, v] 26 (0, 0))) (hs : Sl w v zs) (hl : zs.length ≤ 9223372036854775807) :
    Calls Tryd.prog 59 #[.slice (some ⟨k, 0, none⟩) 1 1] w fun e w' => e = .returned (.int .i64 (if isG n zs then 0 else 1)) ∧ Below w.heap.size w w' := by
  have his := l01Is_any n v zs w hs hl
  obtain ⟨a0, a1, -, -⟩ := two_cells hk
  cases hg : isG n zs with
  | false =>
    rw [hg] at his
    rw [if_neg (by simp)]
    clear hg hs hk
    go_enter Tryd.func59, Tryd.ntmps59
    go_wp2
    go_loopw [3] (fun i wr => i = .int .i64 0 ∧ wr = w) (fun i _ => 1 - (intOf i).toNat)
    case atStart => exact ⟨rfl, rfl⟩
    case round =>
      obtain ⟨rfl, rfl⟩ := hrel
      go_wp2_with (go_at_call 78; refine his.mono ?_; rintro e w1 ⟨rfl, hb1⟩)
      go_ret
      exact ⟨rfl, hb1⟩
  | true =>
    rw [hg] at his
    rw [if_pos rfl]
    clear hg hs hk
    go_enter Tryd.func59, Tryd.ntmps59
    go_wp2
    go_loopw [3] (fun i wr => (i = .int .i64 0 ∧ wr = w) ∨ (i = .int .i64 1 ∧ Below w.heap.size w wr)) (fun i _ => 1 - (intOf i).toNat)
    case atStart => exact .inl ⟨rfl, rfl⟩
    case round =>
      rcases hrel with ⟨rfl, rfl⟩ | ⟨rfl, hB⟩
      · go_wp2_with (go_at_call 78; refine his.mono ?_; rintro e w1 ⟨rfl, hb1⟩)
        go_roundw
        case rel => exact .inr ⟨rfl, hb1⟩
        case measure => simp [intOf]
      · go_wp2
        go_ret
        exact ⟨rfl, hB⟩


/-- An edge put into rows told by pairs. -/
theorem put9 (n : Int) (g cap B m : Nat) (S : List (Nat × Nat)) (a b : Nat) (w : World) (h : Own w B (.slice (some ⟨g, 0, none⟩) m cap) (rowsF m (adjS S))) (hg : g < w.heap.size) (ha : a < m) (hb : b < m) (hl : m ≤ 62) :
    Calls Tryd.prog 62 #[.agg #[.int .i64 n, .slice (some ⟨g, 0, none⟩) m cap], .int .i64 a, .int .i64 b] w fun e w' => (∃ v, e = .returned v) ∧ Own w' B (.slice (some ⟨g, 0, none⟩) m cap) (rowsF m (adjS (S ++ [(a, b)]))) ∧ w.grownBy w' (some g) := by
  have := l01Put_some n g cap B m (rowsF m (adjS S)) a b w (rowsF_length _ _) h hg ha hb hl (fun i hi => rowsF_bd m _ i hi)
  rw [← rows_snoc m S a b ha hb]
  exact this
end Go.Proofs.YtabkfihhfkmioaaDoor
