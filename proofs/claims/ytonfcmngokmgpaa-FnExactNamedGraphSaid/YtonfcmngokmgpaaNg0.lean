/-
  graphWhere over a closure without captured variables; the closures of impl.NamedGraph. (gen: mk_ng0.py)
-/
import Derived.Test.YtonfcmngokmgpaaUf
import Derived.Test.YtonfcmngokmgpaaOnes
namespace Go.Proofs.Ytonfcmngokmgpaa
set_option maxRecDepth 100000
open Go.RowKit Go.Maps Go.WideMaps Go.WideElems

set_option maxHeartbeats 400000 in
theorem countOf_any (z : Int) (w : World) (h0 : 0 ≤ z) (h1 : z ≤ 9223372036854775807) :
    Calls Try.prog 14 #[.int .i64 z] w fun e w' => e = .returned (.int .i64 (pc z.toNat)) ∧ w = w' := by
  obtain ⟨x, rfl⟩ := Int.eq_ofNat_of_zero_le h0
  have hu : IntKind.u64.wrap (x : Int) = x := by rw [IntKind.wrap_u64]; omega
  have hc := ones_any x (by omega) w
  rw [Int.toNat_natCast]
  go_enter Try.func14, Try.ntmps14
  go_wp2_with (go_at_call 31; refine hc.mono ?_; rintro e w' ⟨rfl, rfl⟩)
  go_ret
  exact ⟨rfl, rfl⟩

set_option maxHeartbeats 3200000 in
set_option maxRecDepth 100000 in
theorem where0_any (fid : FuncId) (f : Nat → Nat → Bool) (n : Nat) (w : World) (hn : n ≤ 62) (eg : ∀ args W, (callFunc fid args).run Try.prog W = .ok (.enter fid args) W)
    (hJ : ∀ (v x : Nat) (W : World), v < x → x < n → Below w.heap.size w W → Calls Try.prog fid #[.int .i64 v, .int .i64 x] W fun e w' => e = .returned (.bool (f v x)) ∧ Below W.heap.size W w') :
    Calls Try.prog 10 #[.int .i64 n, .func (.func fid) #[] #[]] w fun e w' => GRet w.heap.size n (rowsF n (adjS (whereS f n))) e w' ∧ Below w.heap.size w w' := by
  have hmm := @run_makeMap Try.prog
  have D0 : Below w.heap.size w ((w.alloc (.cells #[.int .i64 0, .slice none 0 0] 24)).alloc (.map #[] 0)) := ((Below.refl _ _).alloc (Nat.le_refl _) _).alloc (by simp) _
  have HH := Lib.hid (heap_old_at (World.alloc_heap_new w (.cells #[.int .i64 0, .slice none 0 0] 24)) (.map #[] 0))
  have HP0 := Lib.hid (PS.made (w.alloc (.cells #[.int .i64 0, .slice none 0 0] 24)))
  obtain ⟨W, hW⟩ : ∃ W, W = ((w.alloc (.cells #[.int .i64 0, .slice none 0 0] 24)).alloc (.map #[] 0)) := ⟨_, rfl⟩
  have hsz : w.heap.size + 2 ≤ W.heap.size := by rw [hW]; simp
  rw [← hW] at D0 HH HP0
  rw [World.size_alloc] at HP0
  have HJ := Lib.hid hJ
  clear hJ
  go_enter Try.func10, Try.ntmps10
  go_wp2_with fail
  rw [← hW]
  clear hW hmm
  go_loopw [10] (fun i wr => ∃ x : Nat, x ≤ n ∧ i = .int .i64 x ∧ Hid (PS wr (w.heap.size + 1) (whereS f x)) ∧ Below (w.heap.size + 1) W wr ∧ W.heap.size ≤ wr.heap.size) (fun i _ => n - (intOf i).toNat)
  case atStart => exact ⟨0, Nat.zero_le _, rfl, HP0, Below.refl _ _, Nat.le_refl _⟩
  case round =>
    obtain ⟨x, hx, rfl, HP, hE, hs⟩ := hrel
    by_cases hlt : x < n
    · go_wp2_with fail
      obtain ⟨wo, rfl⟩ : ∃ wo : World, wo = wr := ⟨_, rfl⟩
      have HPI : Hid (PS wo (w.heap.size + 1) (whereS f x ++ inS f x 0)) := by show PS _ _ _; rw [show whereS f x ++ inS f x 0 = whereS f x by simp [inS]]; exact HP.out
      go_loopw [14] (fun i wr => ∃ v : Nat, v ≤ x ∧ i = .int .i64 v ∧ Hid (PS wr (w.heap.size + 1) (whereS f x ++ inS f x v)) ∧ Below (w.heap.size + 1) W wr ∧ W.heap.size ≤ wr.heap.size) (fun i _ => x - (intOf i).toNat)
      case atStart => exact ⟨0, Nat.zero_le _, rfl, HPI, hE, hs⟩
      case round =>
        obtain ⟨v, hv, rfl, HQ, hF, ht⟩ := hrel
        by_cases hlv : v < x
        · have hcon := HJ.out v x wr hlv hlt (D0.trans (hF.mono (by omega)))
          have hL1 := whereS_length f x (by omega)
          have hL2 := inS_length f x v
          have hLL : (whereS f x ++ inS f x v).length < 1048576 := by rw [List.length_append]; omega
          have HJN := Lib.hid (fun W1 h => join_at (w.heap.size + 1) (whereS f x ++ inS f x v) v x (v : Int) (x : Int) W1 h hLL (by omega) (by omega) rfl rfl)
          clear hL1 hL2 hLL
          cases hr : f v x with
          | true =>
            rw [hr] at hcon
            have HC := Lib.hid hcon
            have HN : Hid (whereS f x ++ inS f x (v + 1) = (whereS f x ++ inS f x v) ++ [(v, x)]) := by show _ = _; rw [inS_yes hr, List.append_assoc]
            clear hcon hr
            go_wp2_with fail
            refine HC.out.mono ?_
            rintro e w1 ⟨rfl, hb1⟩
            have HQ1 := Lib.hid (HQ.out.below hb1)
            have hF1 := hF.trans (hb1.mono (by omega))
            have t1 := hb1.size
            have h1 := hF.size
            clear hb1 HQ hF
            go_wp2_with fail
            refine (HJN.out _ HQ1.out).mono ?_
            rintro e w2 ⟨⟨v2, rfl⟩, hP2, hg2⟩
            have hF2 := hF1.grown hg2 (by omega) (fun j e => by cases e; omega)
            have t2 := hg2.size
            have HP2 : Hid (PS w2 (w.heap.size + 1) (whereS f x ++ inS f x (v + 1))) := by show PS _ _ _; rw [HN.out]; exact hP2
            clear hP2 hg2 hF1 HQ1 HJN HC
            go_wp2_with fail
            go_roundw
            case rel => exact ⟨v + 1, by omega, by go_num, HP2, hF2, by omega⟩
            case measure => simp [intOf]; omega
          | false =>
            rw [hr] at hcon
            have HC := Lib.hid hcon
            have HN : Hid (whereS f x ++ inS f x (v + 1) = whereS f x ++ inS f x v) := by show _ = _; rw [inS_no hr]
            clear hcon hr
            go_wp2_with fail
            refine HC.out.mono ?_
            rintro e w1 ⟨rfl, hb1⟩
            have HQ1 : Hid (PS w1 (w.heap.size + 1) (whereS f x ++ inS f x (v + 1))) := by show PS _ _ _; rw [HN.out]; exact HQ.out.below hb1
            have hF1 := hF.trans (hb1.mono (by omega))
            have t1 := hb1.size
            clear hb1 HQ hF HJN HC
            go_wp2_with fail
            go_roundw
            case rel => exact ⟨v + 1, by omega, by go_num, HQ1, hF1, by omega⟩
            case measure => simp [intOf]; omega
        · obtain rfl : v = x := by omega
          have HQ1 : Hid (PS wr (w.heap.size + 1) (whereS f (v + 1))) := HQ.out
          go_wp2_with fail
          go_roundw
          case rel => exact ⟨v + 1, by omega, by go_num, HQ1, hF, ht⟩
          case measure => simp [intOf]; omega
    · obtain rfl : x = n := by omega
      have hgo := Lib.hid (gop_at x (w.heap.size + 1) (x : Int) (whereS f x) wr HP.out hn (whereS_mem f x) rfl)
      have RB0 := Lib.hid ((hE.block w.heap.size (by omega)).trans HH.out)
      clear HP
      go_wp2_with fail
      refine hgo.out.mono ?_
      rintro e w1 ⟨⟨g, rfl, hB, hg⟩, hb1⟩
      have RB := Lib.hid ((hb1.block w.heap.size (by omega)).trans RB0.out)
      obtain ⟨r0, r1, g0, g1⟩ := two_cells RB.out
      have HB := Lib.hid hB
      have hE1 := hE.trans (hb1.mono (by omega))
      clear hB hb1 hE hgo RB0
      go_wp2_with fail
      have hfin := two_set (a := .int .i64 x) (b := .slice (some ⟨g, 0, none⟩) x x) RB.out
      refine bodyPost_ret (v := .agg #[.int .i64 x, .slice (some ⟨g, 0, none⟩) x x]) (results_cell_row (p := 4) (ty := 24) rfl _ _ w.heap.size 24 _ (0, 0) _ rfl hfin Try.underlying24 rfl (by exact info27)) rfl ⟨⟨_, rfl, ?_, by omega⟩, ?_⟩
      · exact (HB.out.other (by simp; omega) _).other (by simp; omega) _
      · exact ((D0.trans (hE1.mono (by omega))).setCell (p := ⟨w.heap.size, 0, none⟩) (by simp) _).setCell (p := ⟨w.heap.size, 1, none⟩) (by simp) _

set_option maxHeartbeats 400000 in
theorem every_pair (v x : Int) (w : World) : Calls Try.prog 11 #[.int .i64 v, .int .i64 x] w fun e w' => e = .returned (.bool true) ∧ w = w' := by
  go_enter Try.func11, Try.ntmps11
  go_wp2
  go_ret
  exact ⟨rfl, rfl⟩
def k33F (v x : Nat) : Bool := decide (v < 3) && decide (3 ≤ x)
def cubeF (v x : Nat) : Bool := pc (v ^^^ x) == 1
def clebF (v x : Nat) : Bool := pc (v ^^^ x) == 1 || pc (v ^^^ x) == 4
theorem xor16 : ∀ v, v < 16 → ∀ x, x < 16 → bits .xor .i64 ((v : Nat) : Int) ((x : Nat) : Int) = ((v ^^^ x : Nat) : Int) := by decide +kernel

set_option maxHeartbeats 800000 in
theorem named1_any (v x : Nat) (w : World) : Calls Try.prog 12 #[.int .i64 v, .int .i64 x] w fun e w' => e = .returned (.bool (k33F v x)) ∧ w = w' := by
  have hc : (decide ((v : Int) < 3) = true ∧ decide ((3 : Int) ≤ x) = k33F v x) ∨ (decide ((v : Int) < 3) = false ∧ k33F v x = false) := by
    unfold k33F
    by_cases h : v < 3
    · refine .inl ⟨by simp; omega, ?_⟩
      rw [decide_eq_true h, Bool.true_and, decide_eq_decide]; omega
    · exact .inr ⟨by simp; omega, by rw [decide_eq_false h]; rfl⟩
  obtain ⟨r, hr⟩ : ∃ r, r = k33F v x := ⟨_, rfl⟩
  rw [← hr] at hc
  rw [← hr]
  clear hr
  rcases hc with ⟨h1, h2⟩ | ⟨h1, rfl⟩
  · go_enter Try.func12, Try.ntmps12
    go_wp2
    go_ret
    exact ⟨rfl, rfl⟩
  · go_enter Try.func12, Try.ntmps12
    go_wp2
    go_ret
    exact ⟨rfl, rfl⟩

set_option maxHeartbeats 800000 in
theorem named2_any (v x : Nat) (w : World) (hv : v < 16) (hx : x < 16) : Calls Try.prog 13 #[.int .i64 v, .int .i64 x] w fun e w' => e = .returned (.bool (cubeF v x)) ∧ w = w' := by
  have h1 := xor16 v hv x hx
  have hz : v ^^^ x < 2 ^ 4 := Nat.xor_lt_two_pow hv hx
  have hc := fun W => countOf_any ((v ^^^ x : Nat) : Int) W (by omega) (by omega)
  rw [Int.toNat_natCast] at hc
  obtain ⟨z, hz'⟩ : ∃ z, z = v ^^^ x := ⟨_, rfl⟩
  have hr : cubeF v x = (pc z == 1) := by unfold cubeF; rw [← hz']
  rw [hr]
  rw [← hz'] at h1 hc
  obtain ⟨c, hcc⟩ : ∃ c, c = pc z := ⟨_, rfl⟩
  rw [← hcc] at hc
  rw [← hcc]
  clear hr hz hz' hcc
  by_cases hq : c = 1
  · subst hq
    go_enter Try.func13, Try.ntmps13
    go_wp2_with (go_at_call 14; refine (hc _).mono ?_; rintro e w' ⟨rfl, rfl⟩)
    go_ret
    exact ⟨rfl, rfl⟩
  · have h2 : ((c : Int) == 1) = false := beq_eq_false_iff_ne.2 (by omega)
    have h3 : (c == 1) = false := beq_eq_false_iff_ne.2 hq
    rw [h3]
    clear h3
    go_enter Try.func13, Try.ntmps13
    go_wp2_with (go_at_call 14; refine (hc _).mono ?_; rintro e w' ⟨rfl, rfl⟩)
    go_ret
    exact ⟨rfl, rfl⟩

set_option maxHeartbeats 800000 in
theorem named3_any (v x : Nat) (w : World) (hv : v < 16) (hx : x < 16) : Calls Try.prog 15 #[.int .i64 v, .int .i64 x] w fun e w' => e = .returned (.bool (clebF v x)) ∧ w = w' := by
  have h1 := xor16 v hv x hx
  have hz : v ^^^ x < 2 ^ 4 := Nat.xor_lt_two_pow hv hx
  have hc := fun W => countOf_any ((v ^^^ x : Nat) : Int) W (by omega) (by omega)
  rw [Int.toNat_natCast] at hc
  obtain ⟨z, hz'⟩ : ∃ z, z = v ^^^ x := ⟨_, rfl⟩
  have hr : clebF v x = (pc z == 1 || pc z == 4) := by unfold clebF; rw [← hz']
  rw [hr]
  rw [← hz'] at h1 hc
  obtain ⟨c, hcc⟩ : ∃ c, c = pc z := ⟨_, rfl⟩
  rw [← hcc] at hc
  rw [← hcc]
  clear hr hz hz' hcc
  by_cases hq : c = 1
  · subst hq
    go_enter Try.func15, Try.ntmps15
    go_wp2_with (go_at_call 14; refine (hc _).mono ?_; rintro e w' ⟨rfl, rfl⟩)
    go_ret
    exact ⟨rfl, rfl⟩
  · have h2 : ((c : Int) == 1) = false := beq_eq_false_iff_ne.2 (by omega)
    have h3 : (c == 1) = false := beq_eq_false_iff_ne.2 hq
    rw [h3, Bool.false_or]
    clear h3
    by_cases h4 : c = 4
    · subst h4
      go_enter Try.func15, Try.ntmps15
      go_wp2_with (go_at_call 14; refine (hc _).mono ?_; rintro e w' ⟨rfl, rfl⟩)
      go_ret
      exact ⟨rfl, rfl⟩
    · have h5 : ((c : Int) == 4) = false := beq_eq_false_iff_ne.2 (by omega)
      have h6 : (c == 4) = false := beq_eq_false_iff_ne.2 h4
      rw [h6]
      clear h6
      go_enter Try.func15, Try.ntmps15
      go_wp2_with (go_at_call 14; refine (hc _).mono ?_; rintro e w' ⟨rfl, rfl⟩)
      go_ret
      exact ⟨rfl, rfl⟩
theorem eg_ep : ∀ args W, (callFunc 11 args).run Try.prog W = .ok (.enter 11 args) W := fun _ _ => by kernel_rfl
theorem eg_n1 : ∀ args W, (callFunc 12 args).run Try.prog W = .ok (.enter 12 args) W := fun _ _ => by kernel_rfl
theorem eg_n2 : ∀ args W, (callFunc 13 args).run Try.prog W = .ok (.enter 13 args) W := fun _ _ => by kernel_rfl
theorem eg_n3 : ∀ args W, (callFunc 15 args).run Try.prog W = .ok (.enter 15 args) W := fun _ _ => by kernel_rfl
theorem w4_any (w : World) : Calls Try.prog 10 #[.int .i64 4, .func (.func 11) #[] #[]] w fun e w' => GRet w.heap.size 4 (rowsF 4 (adjS (whereS (fun _ _ => true) 4))) e w' ∧ Below w.heap.size w w' :=
  where0_any 11 (fun _ _ => true) 4 w (by omega) eg_ep fun v x W hv hx _ => (every_pair v x W).mono fun e w' ⟨h1, h2⟩ => ⟨h1, h2 ▸ Below.refl _ _⟩
theorem w5_any (w : World) : Calls Try.prog 10 #[.int .i64 5, .func (.func 11) #[] #[]] w fun e w' => GRet w.heap.size 5 (rowsF 5 (adjS (whereS (fun _ _ => true) 5))) e w' ∧ Below w.heap.size w w' :=
  where0_any 11 (fun _ _ => true) 5 w (by omega) eg_ep fun v x W hv hx _ => (every_pair v x W).mono fun e w' ⟨h1, h2⟩ => ⟨h1, h2 ▸ Below.refl _ _⟩
theorem w33_any (w : World) : Calls Try.prog 10 #[.int .i64 6, .func (.func 12) #[] #[]] w fun e w' => GRet w.heap.size 6 (rowsF 6 (adjS (whereS (k33F) 6))) e w' ∧ Below w.heap.size w w' :=
  where0_any 12 (k33F) 6 w (by omega) eg_n1 fun v x W hv hx _ => (named1_any v x W).mono fun e w' ⟨h1, h2⟩ => ⟨h1, h2 ▸ Below.refl _ _⟩
theorem wcube_any (w : World) : Calls Try.prog 10 #[.int .i64 8, .func (.func 13) #[] #[]] w fun e w' => GRet w.heap.size 8 (rowsF 8 (adjS (whereS (cubeF) 8))) e w' ∧ Below w.heap.size w w' :=
  where0_any 13 (cubeF) 8 w (by omega) eg_n2 fun v x W hv hx _ => (named2_any v x W (by omega) (by omega)).mono fun e w' ⟨h1, h2⟩ => ⟨h1, h2 ▸ Below.refl _ _⟩
theorem wcleb_any (w : World) : Calls Try.prog 10 #[.int .i64 16, .func (.func 15) #[] #[]] w fun e w' => GRet w.heap.size 16 (rowsF 16 (adjS (whereS (clebF) 16))) e w' ∧ Below w.heap.size w w' :=
  where0_any 15 (clebF) 16 w (by omega) eg_n3 fun v x W hv hx _ => (named3_any v x W (by omega) (by omega)).mono fun e w' ⟨h1, h2⟩ => ⟨h1, h2 ▸ Below.refl _ _⟩
end Go.Proofs.Ytonfcmngokmgpaa
