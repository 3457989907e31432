/-
  impl.graphWhere, over any closure of two captured variables.
-/
import Derived.Test.YtonfcmngokmgpaaRg
namespace Go.Proofs.Ytonfcmngokmgpaa
set_option maxRecDepth 100000
open Go.RowKit Go.Maps Go.WideMaps Go.WideElems

/-- The pairs (v, x), v below k, that f tells; the pairs v < x below n that f tells. -/
def inS (f : Nat → Nat → Bool) (x : Nat) : Nat → List (Nat × Nat)
  | 0 => []
  | v + 1 => if f v x then inS f x v ++ [(v, x)] else inS f x v
def whereS (f : Nat → Nat → Bool) : Nat → List (Nat × Nat)
  | 0 => []
  | x + 1 => whereS f x ++ inS f x x
theorem inS_yes {f : Nat → Nat → Bool} {x v : Nat} (h : f v x = true) : inS f x (v + 1) = inS f x v ++ [(v, x)] := by simp [inS, h]
theorem inS_no {f : Nat → Nat → Bool} {x v : Nat} (h : f v x = false) : inS f x (v + 1) = inS f x v := by simp [inS, h]
theorem inS_length (f : Nat → Nat → Bool) (x : Nat) : ∀ k, (inS f x k).length ≤ k
  | 0 => Nat.le_refl _
  | k + 1 => by
    have h := inS_length f x k
    cases e : f k x with
    | true => rw [inS_yes e]; simp; omega
    | false => rw [inS_no e]; omega
theorem inS_mem (f : Nat → Nat → Bool) (x : Nat) : ∀ k p, p ∈ inS f x k → p.1 < k ∧ p.2 = x
  | 0, p, h => by simp [inS] at h
  | k + 1, p, h => by
    cases e : f k x with
    | true =>
      rw [inS_yes e, List.mem_append, List.mem_singleton] at h
      rcases h with h | rfl
      · have := inS_mem f x k p h; omega
      · exact ⟨Nat.lt_succ_self _, rfl⟩
    | false =>
      rw [inS_no e] at h
      have := inS_mem f x k p h; omega
theorem whereS_mem (f : Nat → Nat → Bool) : ∀ n p, p ∈ whereS f n → p.1 < n ∧ p.2 < n
  | 0, p, h => by simp [whereS] at h
  | n + 1, p, h => by
    rw [whereS, List.mem_append] at h
    rcases h with h | h
    · have := whereS_mem f n p h; omega
    · have := inS_mem f n n p h; omega
theorem whereS_length (f : Nat → Nat → Bool) : ∀ n, n ≤ 62 → (whereS f n).length ≤ 62 * n
  | 0, _ => Nat.le_refl _
  | n + 1, h => by
    have h1 := whereS_length f n (by omega)
    have h2 := inS_length f n n
    rw [whereS, List.length_append]; omega

set_option maxHeartbeats 3200000 in
set_option maxRecDepth 100000 in
theorem where_any (fid : FuncId) (p1 p2 : Value) (f : Nat → Nat → Bool) (n : Nat) (w : World) (hn : n ≤ 62) (eg : ∀ args W, (callFunc fid args).run Try.prog W = .ok (.enter fid args) W)
    (hJ : ∀ (v x : Nat) (W : World), v < x → x < n → Below w.heap.size w W → Calls Try.prog fid #[.int .i64 v, .int .i64 x, p1, p2] W fun e w' => e = .returned (.bool (f v x)) ∧ Below W.heap.size W w') :
    Calls Try.prog 10 #[.int .i64 n, .func (.func fid) #[] #[p1, p2]] w fun e w' => GRet w.heap.size n (rowsF n (adjS (whereS f n))) e w' ∧ Below w.heap.size w w' := by
  have hmm := @run_makeMap Try.prog
  have D0 : Below w.heap.size w ((w.alloc (.cells #[.int .i64 0, .slice none 0 0] 24)).alloc (.map #[] 0)) := ((Below.refl _ _).alloc (Nat.le_refl _) _).alloc (by simp) _
  have HH := Lib.hid (heap_old_at (World.alloc_heap_new w (.cells #[.int .i64 0, .slice none 0 0] 24)) (.map #[] 0))
  have HP0 := Lib.hid (PS.made (w.alloc (.cells #[.int .i64 0, .slice none 0 0] 24)))
  obtain ⟨W, hW⟩ : ∃ W, W = ((w.alloc (.cells #[.int .i64 0, .slice none 0 0] 24)).alloc (.map #[] 0)) := ⟨_, rfl⟩
  have hsz : w.heap.size + 2 ≤ W.heap.size := by rw [hW]; simp
  rw [← hW] at D0 HH HP0
  rw [World.size_alloc] at HP0
  have HJ := Lib.hid hJ
  clear hJ
  go_enter Try.func10, Try.ntmps10
  go_wp2_with fail
  rw [← hW]
  clear hW hmm
  go_loopw [10] (fun i wr => ∃ x : Nat, x ≤ n ∧ i = .int .i64 x ∧ Hid (PS wr (w.heap.size + 1) (whereS f x)) ∧ Below (w.heap.size + 1) W wr ∧ W.heap.size ≤ wr.heap.size) (fun i _ => n - (intOf i).toNat)
  case atStart => exact ⟨0, Nat.zero_le _, rfl, HP0, Below.refl _ _, Nat.le_refl _⟩
  case round =>
    obtain ⟨x, hx, rfl, HP, hE, hs⟩ := hrel
    by_cases hlt : x < n
    · go_wp2_with fail
      obtain ⟨wo, rfl⟩ : ∃ wo : World, wo = wr := ⟨_, rfl⟩
      have HPI : Hid (PS wo (w.heap.size + 1) (whereS f x ++ inS f x 0)) := by show PS _ _ _; rw [show whereS f x ++ inS f x 0 = whereS f x by simp [inS]]; exact HP.out
      go_loopw [14] (fun i wr => ∃ v : Nat, v ≤ x ∧ i = .int .i64 v ∧ Hid (PS wr (w.heap.size + 1) (whereS f x ++ inS f x v)) ∧ Below (w.heap.size + 1) W wr ∧ W.heap.size ≤ wr.heap.size) (fun i _ => x - (intOf i).toNat)
      case atStart => exact ⟨0, Nat.zero_le _, rfl, HPI, hE, hs⟩
      case round =>
        obtain ⟨v, hv, rfl, HQ, hF, ht⟩ := hrel
        by_cases hlv : v < x
        · have hcon := HJ.out v x wr hlv hlt (D0.trans (hF.mono (by omega)))
          have hL1 := whereS_length f x (by omega)
          have hL2 := inS_length f x v
          have hLL : (whereS f x ++ inS f x v).length < 1048576 := by rw [List.length_append]; omega
          have HJN := Lib.hid (fun W1 h => join_at (w.heap.size + 1) (whereS f x ++ inS f x v) v x (v : Int) (x : Int) W1 h hLL (by omega) (by omega) rfl rfl)
          clear hL1 hL2 hLL
          cases hr : f v x with
          | true =>
            rw [hr] at hcon
            have HC := Lib.hid hcon
            have HN : Hid (whereS f x ++ inS f x (v + 1) = (whereS f x ++ inS f x v) ++ [(v, x)]) := by show _ = _; rw [inS_yes hr, List.append_assoc]
            clear hcon hr
            go_wp2_with fail
            refine HC.out.mono ?_
            rintro e w1 ⟨rfl, hb1⟩
            have HQ1 := Lib.hid (HQ.out.below hb1)
            have hF1 := hF.trans (hb1.mono (by omega))
            have t1 := hb1.size
            have h1 := hF.size
            clear hb1 HQ hF
            go_wp2_with fail
            refine (HJN.out _ HQ1.out).mono ?_
            rintro e w2 ⟨⟨v2, rfl⟩, hP2, hg2⟩
            have hF2 := hF1.grown hg2 (by omega) (fun j e => by cases e; omega)
            have t2 := hg2.size
            have HP2 : Hid (PS w2 (w.heap.size + 1) (whereS f x ++ inS f x (v + 1))) := by show PS _ _ _; rw [HN.out]; exact hP2
            clear hP2 hg2 hF1 HQ1 HJN HC
            go_wp2_with fail
            go_roundw
            case rel => exact ⟨v + 1, by omega, by go_num, HP2, hF2, by omega⟩
            case measure => simp [intOf]; omega
          | false =>
            rw [hr] at hcon
            have HC := Lib.hid hcon
            have HN : Hid (whereS f x ++ inS f x (v + 1) = whereS f x ++ inS f x v) := by show _ = _; rw [inS_no hr]
            clear hcon hr
            go_wp2_with fail
            refine HC.out.mono ?_
            rintro e w1 ⟨rfl, hb1⟩
            have HQ1 : Hid (PS w1 (w.heap.size + 1) (whereS f x ++ inS f x (v + 1))) := by show PS _ _ _; rw [HN.out]; exact HQ.out.below hb1
            have hF1 := hF.trans (hb1.mono (by omega))
            have t1 := hb1.size
            clear hb1 HQ hF HJN HC
            go_wp2_with fail
            go_roundw
            case rel => exact ⟨v + 1, by omega, by go_num, HQ1, hF1, by omega⟩
            case measure => simp [intOf]; omega
        · obtain rfl : v = x := by omega
          have HQ1 : Hid (PS wr (w.heap.size + 1) (whereS f (v + 1))) := HQ.out
          go_wp2_with fail
          go_roundw
          case rel => exact ⟨v + 1, by omega, by go_num, HQ1, hF, ht⟩
          case measure => simp [intOf]; omega
    · obtain rfl : x = n := by omega
      have hgo := Lib.hid (gop_at x (w.heap.size + 1) (x : Int) (whereS f x) wr HP.out hn (whereS_mem f x) rfl)
      have RB0 := Lib.hid ((hE.block w.heap.size (by omega)).trans HH.out)
      clear HP
      go_wp2_with fail
      refine hgo.out.mono ?_
      rintro e w1 ⟨⟨g, rfl, hB, hg⟩, hb1⟩
      have RB := Lib.hid ((hb1.block w.heap.size (by omega)).trans RB0.out)
      obtain ⟨r0, r1, g0, g1⟩ := two_cells RB.out
      have HB := Lib.hid hB
      have hE1 := hE.trans (hb1.mono (by omega))
      clear hB hb1 hE hgo RB0
      go_wp2_with fail
      have hfin := two_set (a := .int .i64 x) (b := .slice (some ⟨g, 0, none⟩) x x) RB.out
      refine bodyPost_ret (v := .agg #[.int .i64 x, .slice (some ⟨g, 0, none⟩) x x]) (results_cell_row (p := 4) (ty := 24) rfl _ _ w.heap.size 24 _ (0, 0) _ rfl hfin Try.underlying24 rfl (by exact info27)) rfl ⟨⟨_, rfl, ?_, by omega⟩, ?_⟩
      · exact (HB.out.other (by simp; omega) _).other (by simp; omega) _
      · exact ((D0.trans (hE1.mono (by omega))).setCell (p := ⟨w.heap.size, 0, none⟩) (by simp) _).setCell (p := ⟨w.heap.size, 1, none⟩) (by simp) _
end Go.Proofs.Ytonfcmngokmgpaa
