/-
  impl.NamedGraph and spec.NamedGraph, whatever name comes in. (gen: mk_nge.py)
-/
import Derived.Test.YtonfcmngokmgpaaNgj
import Derived.Test.YtonfcmngokmgpaaNgs
import Derived.Test.YtonfcmngokmgpaaNgh
import Derived.Test.YtonfcmngokmgpaaNgc
namespace Go.Proofs.Ytonfcmngokmgpaa
set_option maxRecDepth 100000
open Go.RowKit

/-- The graph with a name: its size, its rows, the code. -/
def nmOf (l : List UInt8) : Int × List Int × Int :=
  if l = [107, 52] then (4, ngK4, 0) else
  if l = [107, 53] then (5, ngK5, 0) else
  if l = [107, 51, 51] then (6, ngK33, 0) else
  if l = [99, 117, 98, 101] then (8, ngCube, 0) else
  if l = [99, 108, 101, 98, 115, 99, 104] then (16, ngCleb, 0) else
  if l = [112, 101, 116, 101, 114, 115, 101, 110] then (10, ngPet, 0) else
  if l = [105, 99, 111, 115, 97, 104, 101, 100, 114, 111, 110] then (12, ngIco, 0) else
  if l = [104, 111, 102, 102, 109, 97, 110, 115, 105, 110, 103, 108, 101, 116, 111, 110] then (50, ngHof, 0) else
  if l = [104, 101, 97, 119, 111, 111, 100] then (14, (rowsF 14 (adjS (jumpS 14 [5, 9] 14))), 0) else
  if l = [109, 111, 101, 98, 105, 117, 115, 107, 97, 110, 116, 111, 114] then (16, (rowsF 16 (adjS (jumpS 16 [5, 11] 16))), 0) else
  if l = [112, 97, 112, 112, 117, 115] then (18, (rowsF 18 (adjS (jumpS 18 [5, 7, 11, 7, 11, 13] 18))), 0) else
  if l = [100, 101, 115, 97, 114, 103, 117, 101, 115] then (20, (rowsF 20 (adjS (jumpS 20 [5, 15, 9, 11] 20))), 0) else
  if l = [100, 111, 100, 101, 99, 97, 104, 101, 100, 114, 111, 110] then (20, (rowsF 20 (adjS (jumpS 20 [10, 7, 4, 16, 13, 10, 16, 7, 13, 4] 20))), 0) else
  if l = [109, 99, 103, 101, 101] then (24, (rowsF 24 (adjS (jumpS 24 [12, 7, 17] 24))), 0) else
  if l = [116, 117, 116, 116, 101, 99, 111, 120, 101, 116, 101, 114] then (30, (rowsF 30 (adjS (jumpS 30 [17, 21, 7, 23, 9, 13] 30))), 0) else
  (0, [], 4)
def NmN (s : ByteArray) : Int := (nmOf s.data.toList).1
def NmL (s : ByteArray) : List Int := (nmOf s.data.toList).2.1
def NmC (s : ByteArray) : Int := (nmOf s.data.toList).2.2
theorem s_eq {s : ByteArray} {a : Array UInt8} (h : s.data.toList = a.toList) : s = ⟨a⟩ := by
  cases s
  exact congrArg ByteArray.mk (Array.toList_inj.1 h)
theorem not_toList {s : ByteArray} {l : List UInt8} (h : ¬ s.data.toList = l) : (s.toList == l) = false := by
  rw [ByteArray.toList_eq]
  exact beq_eq_false_iff_ne.2 h
/-- A name is one of the fifteen, or the answer is that there is none. -/
theorem nm_cases (s : ByteArray) (Q : ByteArray → Int → List Int → Int → Prop)
    (h0 : Q ⟨#[107, 52]⟩ 4 ngK4 0)
    (h1 : Q ⟨#[107, 53]⟩ 5 ngK5 0)
    (h2 : Q ⟨#[107, 51, 51]⟩ 6 ngK33 0)
    (h3 : Q ⟨#[99, 117, 98, 101]⟩ 8 ngCube 0)
    (h4 : Q ⟨#[99, 108, 101, 98, 115, 99, 104]⟩ 16 ngCleb 0)
    (h5 : Q ⟨#[112, 101, 116, 101, 114, 115, 101, 110]⟩ 10 ngPet 0)
    (h6 : Q ⟨#[105, 99, 111, 115, 97, 104, 101, 100, 114, 111, 110]⟩ 12 ngIco 0)
    (h7 : Q ⟨#[104, 111, 102, 102, 109, 97, 110, 115, 105, 110, 103, 108, 101, 116, 111, 110]⟩ 50 ngHof 0)
    (h8 : Q ⟨#[104, 101, 97, 119, 111, 111, 100]⟩ 14 (rowsF 14 (adjS (jumpS 14 [5, 9] 14))) 0)
    (h9 : Q ⟨#[109, 111, 101, 98, 105, 117, 115, 107, 97, 110, 116, 111, 114]⟩ 16 (rowsF 16 (adjS (jumpS 16 [5, 11] 16))) 0)
    (h10 : Q ⟨#[112, 97, 112, 112, 117, 115]⟩ 18 (rowsF 18 (adjS (jumpS 18 [5, 7, 11, 7, 11, 13] 18))) 0)
    (h11 : Q ⟨#[100, 101, 115, 97, 114, 103, 117, 101, 115]⟩ 20 (rowsF 20 (adjS (jumpS 20 [5, 15, 9, 11] 20))) 0)
    (h12 : Q ⟨#[100, 111, 100, 101, 99, 97, 104, 101, 100, 114, 111, 110]⟩ 20 (rowsF 20 (adjS (jumpS 20 [10, 7, 4, 16, 13, 10, 16, 7, 13, 4] 20))) 0)
    (h13 : Q ⟨#[109, 99, 103, 101, 101]⟩ 24 (rowsF 24 (adjS (jumpS 24 [12, 7, 17] 24))) 0)
    (h14 : Q ⟨#[116, 117, 116, 116, 101, 99, 111, 120, 101, 116, 101, 114]⟩ 30 (rowsF 30 (adjS (jumpS 30 [17, 21, 7, 23, 9, 13] 30))) 0)
    (hno : (¬ s.data.toList = [107, 52]) → (¬ s.data.toList = [107, 53]) → (¬ s.data.toList = [107, 51, 51]) → (¬ s.data.toList = [99, 117, 98, 101]) → (¬ s.data.toList = [99, 108, 101, 98, 115, 99, 104]) → (¬ s.data.toList = [112, 101, 116, 101, 114, 115, 101, 110]) → (¬ s.data.toList = [105, 99, 111, 115, 97, 104, 101, 100, 114, 111, 110]) → (¬ s.data.toList = [104, 111, 102, 102, 109, 97, 110, 115, 105, 110, 103, 108, 101, 116, 111, 110]) → (¬ s.data.toList = [104, 101, 97, 119, 111, 111, 100]) → (¬ s.data.toList = [109, 111, 101, 98, 105, 117, 115, 107, 97, 110, 116, 111, 114]) → (¬ s.data.toList = [112, 97, 112, 112, 117, 115]) → (¬ s.data.toList = [100, 101, 115, 97, 114, 103, 117, 101, 115]) → (¬ s.data.toList = [100, 111, 100, 101, 99, 97, 104, 101, 100, 114, 111, 110]) → (¬ s.data.toList = [109, 99, 103, 101, 101]) → (¬ s.data.toList = [116, 117, 116, 116, 101, 99, 111, 120, 101, 116, 101, 114]) → Q s 0 [] 4) : Q s (NmN s) (NmL s) (NmC s) := by
  unfold NmN NmL NmC nmOf
  by_cases c0 : s.data.toList = [107, 52]
  · rw [if_pos c0, s_eq (a := #[107, 52]) c0]; exact h0
  rw [if_neg c0]
  by_cases c1 : s.data.toList = [107, 53]
  · rw [if_pos c1, s_eq (a := #[107, 53]) c1]; exact h1
  rw [if_neg c1]
  by_cases c2 : s.data.toList = [107, 51, 51]
  · rw [if_pos c2, s_eq (a := #[107, 51, 51]) c2]; exact h2
  rw [if_neg c2]
  by_cases c3 : s.data.toList = [99, 117, 98, 101]
  · rw [if_pos c3, s_eq (a := #[99, 117, 98, 101]) c3]; exact h3
  rw [if_neg c3]
  by_cases c4 : s.data.toList = [99, 108, 101, 98, 115, 99, 104]
  · rw [if_pos c4, s_eq (a := #[99, 108, 101, 98, 115, 99, 104]) c4]; exact h4
  rw [if_neg c4]
  by_cases c5 : s.data.toList = [112, 101, 116, 101, 114, 115, 101, 110]
  · rw [if_pos c5, s_eq (a := #[112, 101, 116, 101, 114, 115, 101, 110]) c5]; exact h5
  rw [if_neg c5]
  by_cases c6 : s.data.toList = [105, 99, 111, 115, 97, 104, 101, 100, 114, 111, 110]
  · rw [if_pos c6, s_eq (a := #[105, 99, 111, 115, 97, 104, 101, 100, 114, 111, 110]) c6]; exact h6
  rw [if_neg c6]
  by_cases c7 : s.data.toList = [104, 111, 102, 102, 109, 97, 110, 115, 105, 110, 103, 108, 101, 116, 111, 110]
  · rw [if_pos c7, s_eq (a := #[104, 111, 102, 102, 109, 97, 110, 115, 105, 110, 103, 108, 101, 116, 111, 110]) c7]; exact h7
  rw [if_neg c7]
  by_cases c8 : s.data.toList = [104, 101, 97, 119, 111, 111, 100]
  · rw [if_pos c8, s_eq (a := #[104, 101, 97, 119, 111, 111, 100]) c8]; exact h8
  rw [if_neg c8]
  by_cases c9 : s.data.toList = [109, 111, 101, 98, 105, 117, 115, 107, 97, 110, 116, 111, 114]
  · rw [if_pos c9, s_eq (a := #[109, 111, 101, 98, 105, 117, 115, 107, 97, 110, 116, 111, 114]) c9]; exact h9
  rw [if_neg c9]
  by_cases c10 : s.data.toList = [112, 97, 112, 112, 117, 115]
  · rw [if_pos c10, s_eq (a := #[112, 97, 112, 112, 117, 115]) c10]; exact h10
  rw [if_neg c10]
  by_cases c11 : s.data.toList = [100, 101, 115, 97, 114, 103, 117, 101, 115]
  · rw [if_pos c11, s_eq (a := #[100, 101, 115, 97, 114, 103, 117, 101, 115]) c11]; exact h11
  rw [if_neg c11]
  by_cases c12 : s.data.toList = [100, 111, 100, 101, 99, 97, 104, 101, 100, 114, 111, 110]
  · rw [if_pos c12, s_eq (a := #[100, 111, 100, 101, 99, 97, 104, 101, 100, 114, 111, 110]) c12]; exact h12
  rw [if_neg c12]
  by_cases c13 : s.data.toList = [109, 99, 103, 101, 101]
  · rw [if_pos c13, s_eq (a := #[109, 99, 103, 101, 101]) c13]; exact h13
  rw [if_neg c13]
  by_cases c14 : s.data.toList = [116, 117, 116, 116, 101, 99, 111, 120, 101, 116, 101, 114]
  · rw [if_pos c14, s_eq (a := #[116, 117, 116, 116, 101, 99, 111, 120, 101, 116, 101, 114]) c14]; exact h14
  rw [if_neg c14]
  exact hno c0 c1 c2 c3 c4 c5 c6 c7 c8 c9 c10 c11 c12 c13 c14
theorem NmL_length (s : ByteArray) : (NmL s).length ≤ 1048576 := by
  refine nm_cases s (fun _ _ L _ => L.length ≤ 1048576) ?_ ?_ ?_ ?_ ?_ ?_ ?_ ?_ ?_ ?_ ?_ ?_ ?_ ?_ ?_ (fun _ _ _ _ _ _ _ _ _ _ _ _ _ _ _ => by decide)
  · show ngK4.length ≤ _; rw [ngK4_length]; decide
  · show ngK5.length ≤ _; rw [ngK5_length]; decide
  · show ngK33.length ≤ _; rw [ngK33_length]; decide
  · show ngCube.length ≤ _; rw [ngCube_length]; decide
  · show ngCleb.length ≤ _; rw [ngCleb_length]; decide
  · show ngPet.length ≤ _; rw [ngPet_length]; decide
  · show ngIco.length ≤ _; rw [ngIco_length]; decide
  · show ngHof.length ≤ _; rw [ngHof_length]; decide
  · show (rowsF _ _).length ≤ _; rw [rowsF_length]; decide
  · show (rowsF _ _).length ≤ _; rw [rowsF_length]; decide
  · show (rowsF _ _).length ≤ _; rw [rowsF_length]; decide
  · show (rowsF _ _).length ≤ _; rw [rowsF_length]; decide
  · show (rowsF _ _).length ≤ _; rw [rowsF_length]; decide
  · show (rowsF _ _).length ≤ _; rw [rowsF_length]; decide
  · show (rowsF _ _).length ≤ _; rw [rowsF_length]; decide

theorem plan_mem (i : Nat) (t : PlT) (h : plansT[i]? = some t) : t ∈ plansT := List.mem_of_getElem? h
theorem implNm_any (s : ByteArray) (w : World) (hs : s.size ≤ maxLen) :
    Calls Try.prog 5 #[.string s] w fun e w' => GRes w.heap.size (NmN s) (NmL s) (NmC s) e w' ∧ Below w.heap.size w w' := by
  refine nm_cases s (fun s N L c => Calls Try.prog 5 #[.string s] w fun e w' => GRes w.heap.size N L c e w' ∧ Below w.heap.size w w') (implK4_named w) (implK5_named w) (implK33_named w) (implCube_named w) (implCleb_named w) (implPet_named w) (implIco_named w) (implHof_named w) ?_ ?_ ?_ ?_ ?_ ?_ ?_ ?_
  · exact implPlan_named ⟨#[104, 101, 97, 119, 111, 111, 100]⟩ 14 [5, 9] w (Nat.le_of_ble_eq_true rfl) ⟨not_toList (by decide), not_toList (by decide), not_toList (by decide), not_toList (by decide), not_toList (by decide), not_toList (by decide), not_toList (by decide), not_toList (by decide)⟩ (plan_mem 0 _ rfl) (by omega) (by omega) (by decide) (by decide) (by decide)
  · exact implPlan_named ⟨#[109, 111, 101, 98, 105, 117, 115, 107, 97, 110, 116, 111, 114]⟩ 16 [5, 11] w (Nat.le_of_ble_eq_true rfl) ⟨not_toList (by decide), not_toList (by decide), not_toList (by decide), not_toList (by decide), not_toList (by decide), not_toList (by decide), not_toList (by decide), not_toList (by decide)⟩ (plan_mem 1 _ rfl) (by omega) (by omega) (by decide) (by decide) (by decide)
  · exact implPlan_named ⟨#[112, 97, 112, 112, 117, 115]⟩ 18 [5, 7, 11, 7, 11, 13] w (Nat.le_of_ble_eq_true rfl) ⟨not_toList (by decide), not_toList (by decide), not_toList (by decide), not_toList (by decide), not_toList (by decide), not_toList (by decide), not_toList (by decide), not_toList (by decide)⟩ (plan_mem 2 _ rfl) (by omega) (by omega) (by decide) (by decide) (by decide)
  · exact implPlan_named ⟨#[100, 101, 115, 97, 114, 103, 117, 101, 115]⟩ 20 [5, 15, 9, 11] w (Nat.le_of_ble_eq_true rfl) ⟨not_toList (by decide), not_toList (by decide), not_toList (by decide), not_toList (by decide), not_toList (by decide), not_toList (by decide), not_toList (by decide), not_toList (by decide)⟩ (plan_mem 3 _ rfl) (by omega) (by omega) (by decide) (by decide) (by decide)
  · exact implPlan_named ⟨#[100, 111, 100, 101, 99, 97, 104, 101, 100, 114, 111, 110]⟩ 20 [10, 7, 4, 16, 13, 10, 16, 7, 13, 4] w (Nat.le_of_ble_eq_true rfl) ⟨not_toList (by decide), not_toList (by decide), not_toList (by decide), not_toList (by decide), not_toList (by decide), not_toList (by decide), not_toList (by decide), not_toList (by decide)⟩ (plan_mem 4 _ rfl) (by omega) (by omega) (by decide) (by decide) (by decide)
  · exact implPlan_named ⟨#[109, 99, 103, 101, 101]⟩ 24 [12, 7, 17] w (Nat.le_of_ble_eq_true rfl) ⟨not_toList (by decide), not_toList (by decide), not_toList (by decide), not_toList (by decide), not_toList (by decide), not_toList (by decide), not_toList (by decide), not_toList (by decide)⟩ (plan_mem 5 _ rfl) (by omega) (by omega) (by decide) (by decide) (by decide)
  · exact implPlan_named ⟨#[116, 117, 116, 116, 101, 99, 111, 120, 101, 116, 101, 114]⟩ 30 [17, 21, 7, 23, 9, 13] w (Nat.le_of_ble_eq_true rfl) ⟨not_toList (by decide), not_toList (by decide), not_toList (by decide), not_toList (by decide), not_toList (by decide), not_toList (by decide), not_toList (by decide), not_toList (by decide)⟩ (plan_mem 6 _ rfl) (by omega) (by omega) (by decide) (by decide) (by decide)
  · intro c0 c1 c2 c3 c4 c5 c6 c7 c8 c9 c10 c11 c12 c13 c14
    refine implNone_named s w hs ⟨not_toList c0, not_toList c1, not_toList c2, not_toList c3, not_toList c4, not_toList c5, not_toList c6, not_toList c7⟩ ?_
    simp [plansT, c8, c9, c10, c11, c12, c13, c14]

set_option maxHeartbeats 800000 in
/-- The model's answer out of that of l01Named. -/
theorem specNm_of (s : ByteArray) (N : Int) (L : List Int) (b : Bool) (c : Int) (w : World) (hc : b = true ∧ c = 0 ∨ b = false ∧ c = 4 ∧ N = 0 ∧ L = [])
    (h : ∀ W : World, Calls Try.prog 9 #[.string s] W fun e w' => BRes W.heap.size N L b e w' ∧ Below W.heap.size W w') :
    Calls Try.prog 4 #[.string s] w fun e w' => GRes w.heap.size N L c e w' ∧ Below w.heap.size w w' := by
  obtain ⟨W, hW⟩ : ∃ W, W = w.alloc (.cells #[.int .i64 0, .slice none 0 0] 24) := ⟨_, rfl⟩
  have D0 : Below w.heap.size w W := by rw [hW]; exact (Below.refl _ _).alloc (Nat.le_refl _) _
  have s0 : W.heap.size = w.heap.size + 1 := by rw [hW]; simp
  have HR0 : Hid (W.heap[w.heap.size]? = some (.cells #[.int .i64 0, .slice none 0 0] 24 (0, 0))) := by show _ = _; rw [hW]; exact World.alloc_heap_new w _
  have HH := Lib.hid (h W)
  clear h
  go_enter Try.func4, Try.ntmps4
  go_wp2_with fail
  rw [← hW]
  clear hW
  refine HH.out.mono ?_
  rintro e w1 ⟨⟨u, rfl, hO⟩, hb1⟩
  obtain ⟨ua, ul, uc, rfl⟩ := slice_of hO
  have E1 := D0.trans (hb1.mono (by omega))
  have HR1 := Lib.hid ((hb1.block w.heap.size (by omega)).trans HR0.out)
  have l1 : w.heap.size + 1 ≤ w1.heap.size := by have := hb1.size; omega
  have HO := Lib.hid hO
  clear hO hb1 HH HR0 D0
  have HR2 := Lib.hid (heap_old_at HR1.out (.cells #[.int .i64 N, .slice ua ul uc] 24))
  obtain ⟨r0, r1, g0, g1⟩ := two_cells HR1.out
  obtain ⟨z0, z1, k0, k1⟩ := two_cells HR2.out
  rcases hc with ⟨rfl, rfl⟩ | ⟨rfl, rfl, rfl, rfl⟩
  · go_wp2_with fail
    have hfin := two_set (a := .int .i64 N) (b := .slice ua ul uc) HR2.out
    have hne : (Value.slice ua ul uc).ownBlock ≠ some w.heap.size := fun e => by have := HO.out.ge _ e; omega
    refine bodyPost_ret (v := .tuple #[.agg #[.int .i64 N, .slice ua ul uc], .int .i64 0]) (results_cell2 (p := 2) (u := 3) (ty := 24) rfl _ _ w.heap.size 24 _ (0, 0) _ rfl hfin Try.underlying24 rfl (by exact info27)) rfl ⟨⟨_, rfl, ?_⟩, ?_⟩
    · exact ((HO.out.base (by omega)).below ((Below.refl _ _).alloc (Nat.le_refl _) _)).kept (grown_set (grown_set ⟨rfl, rfl, rfl, Nat.le_refl _, fun _ _ _ => rfl⟩ w.heap.size 0 _) _ 1 _) (.inr hne)
    · exact ((E1.alloc (by omega) _).setCell (p := ⟨w.heap.size, 0, none⟩) (by simp) _).setCell (p := ⟨w.heap.size, 1, none⟩) (by simp) _
  · go_wp2_with fail
    have hfin := two_set (a := .int .i64 0) (b := .slice none 0 0) HR2.out
    refine bodyPost_ret (v := .tuple #[.agg #[.int .i64 0, .slice none 0 0], .int .i64 4]) (results_cell2 (p := 2) (u := 3) (ty := 24) rfl _ _ w.heap.size 24 _ (0, 0) _ rfl hfin Try.underlying24 rfl (by exact info27)) rfl ⟨⟨_, rfl, Own.nil _ _⟩, ?_⟩
    exact ((E1.alloc (by omega) _).setCell (p := ⟨w.heap.size, 0, none⟩) (by simp) _).setCell (p := ⟨w.heap.size, 1, none⟩) (by simp) _

theorem specNm_any (s : ByteArray) (w : World) :
    Calls Try.prog 4 #[.string s] w fun e w' => GRes w.heap.size (NmN s) (NmL s) (NmC s) e w' ∧ Below w.heap.size w w' := by
  refine nm_cases s (fun s N L c => Calls Try.prog 4 #[.string s] w fun e w' => GRes w.heap.size N L c e w' ∧ Below w.heap.size w w') ?_ ?_ ?_ ?_ ?_ ?_ ?_ ?_ ?_ ?_ ?_ ?_ ?_ ?_ ?_ ?_
  · refine specNm_of _ 4 ngK4 true 0 w (.inl ⟨rfl, rfl⟩) (fun W => ?_)
    have h := specK4_named W
    rw [show ([14, 13, 11, 7] : List Int) = ngK4 from by decide +kernel] at h
    exact h
  · refine specNm_of _ 5 ngK5 true 0 w (.inl ⟨rfl, rfl⟩) (fun W => ?_)
    have h := specK5_named W
    rw [show ([30, 29, 27, 23, 15] : List Int) = ngK5 from by decide +kernel] at h
    exact h
  · refine specNm_of _ 6 ngK33 true 0 w (.inl ⟨rfl, rfl⟩) (fun W => ?_)
    have h := specK33_named W
    rw [show ([56, 56, 56, 7, 7, 7] : List Int) = ngK33 from by decide +kernel] at h
    exact h
  · refine specNm_of _ 8 ngCube true 0 w (.inl ⟨rfl, rfl⟩) (fun W => ?_)
    have h := specCube_named W
    rw [show (rowsF 8 (adjS (cubS 8)) : List Int) = ngCube from by decide +kernel] at h
    exact h
  · refine specNm_of _ 16 ngCleb true 0 w (.inl ⟨rfl, rfl⟩) (fun W => ?_)
    have h := specCleb_named W
    rw [show (rowsF 16 (adjS (clbS 16)) : List Int) = ngCleb from by decide +kernel] at h
    exact h
  · refine specNm_of _ 10 ngPet true 0 w (.inl ⟨rfl, rfl⟩) (fun W => ?_)
    have h := specPet_named W
    rw [show (rowsF 10 (adjS (petS 5)) : List Int) = ngPet from by decide +kernel] at h
    exact h
  · refine specNm_of _ 12 ngIco true 0 w (.inl ⟨rfl, rfl⟩) (fun W => ?_)
    have h := specIco_named W
    rw [show (rowsF 12 (adjS (icoS 5)) : List Int) = ngIco from rfl] at h
    exact h
  · refine specNm_of _ 50 ngHof true 0 w (.inl ⟨rfl, rfl⟩) (fun W => ?_)
    have h := specHof_named W
    rw [show (rowsF 50 (adjS (hofS 5)) : List Int) = ngHof from rfl] at h
    exact h
  · exact specNm_of _ 14 _ true 0 w (.inl ⟨rfl, rfl⟩) (fun W => specHea_named W)
  · exact specNm_of _ 16 _ true 0 w (.inl ⟨rfl, rfl⟩) (fun W => specMoe_named W)
  · exact specNm_of _ 18 _ true 0 w (.inl ⟨rfl, rfl⟩) (fun W => specPap_named W)
  · exact specNm_of _ 20 _ true 0 w (.inl ⟨rfl, rfl⟩) (fun W => specDes_named W)
  · exact specNm_of _ 20 _ true 0 w (.inl ⟨rfl, rfl⟩) (fun W => specDod_named W)
  · exact specNm_of _ 24 _ true 0 w (.inl ⟨rfl, rfl⟩) (fun W => specMcg_named W)
  · exact specNm_of _ 30 _ true 0 w (.inl ⟨rfl, rfl⟩) (fun W => specTut_named W)
  · intro c0 c1 c2 c3 c4 c5 c6 c7 c8 c9 c10 c11 c12 c13 c14
    exact specNm_of s 0 [] false 4 w (.inr ⟨rfl, rfl, rfl, rfl⟩) (fun W => specNone_named s W (not_toList c0) (not_toList c1) (not_toList c2) (not_toList c3) (not_toList c4) (not_toList c5) (not_toList c6) (not_toList c7) (not_toList c8) (not_toList c9) (not_toList c10) (not_toList c11) (not_toList c12) (not_toList c13) (not_toList c14))
end Go.Proofs.Ytonfcmngokmgpaa
