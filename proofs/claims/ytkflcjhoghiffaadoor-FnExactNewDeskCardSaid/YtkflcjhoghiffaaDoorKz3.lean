/-
  slices.Repeat of one step; the steps of words of Kautz and of de Bruijn.
-/
import Derived.Test.YtkflcjhoghiffaaDoorTp
import Derived.Laws.IdiomCopy
namespace Go.Proofs.YtkflcjhoghiffaaDoor
set_option maxRecDepth 100000
set_option maxRecDepth 100000
open Go.RowKit

set_option maxHeartbeats 3200000 in
theorem mul64_any (c : Nat) (w : World) (hc : c ≤ 11) :
    Calls Tryd.prog 72 #[.int .u64 1, .int .u64 c] w fun e w' => e = .returned (.tuple #[.int .u64 0, .int .u64 c]) ∧ w = w' := by
  have h : c = 0 ∨ c = 1 ∨ c = 2 ∨ c = 3 ∨ c = 4 ∨ c = 5 ∨ c = 6 ∨ c = 7 ∨ c = 8 ∨ c = 9 ∨ c = 10 ∨ c = 11 := by omega
  rcases h with rfl | rfl | rfl | rfl | rfl | rfl | rfl | rfl | rfl | rfl | rfl | rfl
  all_goals
    go_enter Tryd.func72, Tryd.ntmps72
    go_wp2
    go_ret2
    exact ⟨rfl, rfl⟩
set_option maxHeartbeats 800000 in
theorem mul_any (c : Nat) (w : World) (hc : c ≤ 11) :
    Calls Tryd.prog 67 #[.int .u64 1, .int .u64 c] w fun e w' => e = .returned (.tuple #[.int .u64 0, .int .u64 c]) ∧ w = w' := by
  have hm := fun W => mul64_any c W hc
  go_enter Tryd.func67, Tryd.ntmps67
  go_wp2_with (go_at_call 72; refine (hm _).mono ?_; rintro e w' ⟨rfl, rfl⟩)
  go_ret2
  exact ⟨rfl, rfl⟩

def stepV (f : FuncId) : Value := .func (.func f) #[] #[]
/-- A row of c steps, the first n of them f. -/
def FB (w : World) (g : Nat) (f : FuncId) (c n : Nat) : Prop := ∃ A : Array Value, w.heap[g]? = some (.cells A 80 (0, 0)) ∧ A.size = c ∧ (∀ j, j < n → A[j]? = some (stepV f))
theorem FB.cell {w : World} {g : Nat} {f : FuncId} {c n : Nat} (h : FB w g f c n) {j : Nat} (hj : j < c) : ∃ v, w.cell? ⟨g, j, none⟩ = some v := by
  obtain ⟨A, h1, h2, _⟩ := h
  exact ⟨A[j]'(by omega), by rw [cell_of_row w g j _ _ _ h1]; simp [h2, hj]⟩
theorem FB.at {w : World} {g : Nat} {f : FuncId} {c n : Nat} (h : FB w g f c n) {j : Nat} (hj : j < n) : w.cell? ⟨g, j, none⟩ = some (stepV f) := by
  obtain ⟨A, h1, _, h3⟩ := h
  rw [cell_of_row w g j _ _ _ h1]
  exact h3 j hj
theorem FB.frozen {w : World} {g : Nat} {f : FuncId} {c n : Nat} (h : FB w g f c n) (j : Nat) : w.frozen? ⟨g, j, none⟩ = false := by
  obtain ⟨A, h1, _⟩ := h
  exact frozen_of_row w g j _ _ h1
theorem FB.lt {w : World} {g : Nat} {f : FuncId} {c n : Nat} (h : FB w g f c n) : g < w.heap.size := by
  obtain ⟨A, h1, _⟩ := h
  exact (Array.getElem?_eq_some_iff.1 h1).1
theorem FB.below {w w' : World} {g : Nat} {f : FuncId} {c n : Nat} (h : FB w g f c n) (hb : Below w.heap.size w w') : FB w' g f c n := by
  have hl := h.lt
  obtain ⟨A, h1, h2⟩ := h
  exact ⟨A, (hb.block g hl).trans h1, h2⟩
theorem FB.set {f : FuncId} {g c : Nat} : ∀ (d n : Nat) {w : World}, FB w g f c n → n + d ≤ c → FB (w.setCells g n (List.replicate d (stepV f))) g f c (n + d)
  | 0, _, _, h, _ => h
  | d + 1, n, w, h, hd => by
    rw [List.replicate_succ, World.setCells, show n + (d + 1) = n + 1 + d by omega]
    refine FB.set d (n + 1) ?_ (by omega)
    obtain ⟨A, h1, h2, h3⟩ := h
    refine ⟨A.setIfInBounds n (stepV f), heap_setCell_same w g n _ _ _ h1, by simp [h2], fun j hj => ?_⟩
    by_cases e : j = n
    · subst e; rw [Array.getElem?_setIfInBounds_self_of_lt (by omega)]
    · rw [Array.getElem?_setIfInBounds, if_neg (by omega)]
      exact h3 j (by omega)
theorem below_cells {B g : Nat} {w0 : World} (hB : B ≤ g) : ∀ (vs : List Value) (o : Nat) (w : World), Below B w0 w → Below B w0 (w.setCells g o vs)
  | [], _, _, h => h
  | v :: r, o, w, h => by rw [World.setCells]; exact below_cells hB r (o + 1) _ (h.setCell (p := ⟨g, o, none⟩) hB v)

theorem mkF_info : (Tryd.prog.info? 80).map (fun i => (i.zero, i.size, i.bytes)) = some (some .nilFunc, 1, 8) := by kernel_rfl
theorem mkF_size : (Tryd.prog.info? 80).map (·.size) = some 1 := by kernel_rfl
set_option maxRecDepth 100000 in
theorem run_mkF (len : Nat) (h : len ≤ 1048576) (w : World) : (Instr.makeSlice 57 (.int .i64 len) (.int .i64 len)).run Tryd.prog w = .ok (.slice (some ⟨w.heap.size, 0, none⟩) len len) (w.alloc (.cells (madeCells #[Value.nilFunc] len) 80)) := by
  obtain ⟨i0, hi, hz0, hz1, hz2⟩ := info_parts mkF_info
  rw [run_make w 57 80 i0 .nilFunc Tryd.underlying57 hi hz0 .i64 .i64 len len (by omega) (by omega) (by rw [hz2]; omega) (by omega)]
  simp only [Int.toNat_natCast, hz1, Nat.mul_one]
  rfl

theorem copy_fb {W : World} {g : Nat} {f : FuncId} {c n d : Nat} (HF : FB W g f c n) (hd : d = Nat.min n (c - n)) (hnl : n < c) :
    ∀ ty, (Builtin.copy_ #[57, 57] ty #[.slice (some ⟨g, n, none⟩) (c - n) (c - n), .slice (some ⟨g, 0, none⟩) n c]).run Tryd.prog W = .ok (goInt d) (W.setCells g n (List.replicate d (stepV f))) := fun ty => by
  have hd2 : d ≤ n := by rw [hd]; exact Nat.min_le_left _ _
  have hd3 : d ≤ c - n := by rw [hd]; exact Nat.min_le_right _ _
  have := run_copy_cells (P := Tryd.prog) W 57 57 ty 80 g n (c - n) (c - n) ⟨g, 0, none⟩ n c (List.replicate d (stepV f)) Tryd.underlying57 mkF_size (by rw [List.length_replicate]; exact hd)
    (fun j v hj => by
      rw [List.getElem?_replicate] at hj
      split at hj
      · cases hj
        rename_i hjd
        have := HF.at (j := j) (by omega)
        simp only [Addr.add]
        split
        · rename_i h0; subst h0; exact this
        · simpa using this
      · cases hj)
    (fun j hj => by rw [List.length_replicate] at hj; obtain ⟨v, hv⟩ := HF.cell (j := n + j) (by omega); rw [hv]; rfl) (fun j _ => HF.frozen _) (by intro v hv; rw [List.eq_of_mem_replicate hv]; rfl)
  rw [List.length_replicate] at this
  exact this

set_option maxHeartbeats 3200000 in
theorem rep_any (f : FuncId) (b c : Nat) (w : World) (hb : w.heap[b]? = some (.cells #[stepV f] 80 (0, 0))) (hc : c ≤ 11) (hc1 : 1 ≤ c) :
    Calls Tryd.prog 55 #[.slice (some ⟨b, 0, none⟩) 1 1, .int .i64 c] w fun e w' => e = .returned (.slice (some ⟨w.heap.size, 0, none⟩) c c) ∧ FB w' w.heap.size f c c ∧ Below w.heap.size w w' := by
  have HM := Lib.hid (fun W => mul_any c W hc)
  have hci : (c : Int) ≤ 11 := by omega
  have hci0 : (0 : Int) ≤ c := by omega
  have hmk := run_mkF c (by omega)
  obtain ⟨W, hW⟩ : ∃ W, W = w.alloc (.cells (madeCells #[Value.nilFunc] c) 80) := ⟨_, rfl⟩
  have D0 : Below w.heap.size w W := by rw [hW]; exact (Below.refl _ _).alloc (Nat.le_refl _) _
  have HF0 : FB W w.heap.size f c 0 := ⟨_, by rw [hW]; exact World.alloc_heap_new w _, size_madeCells _ _, fun j h => by omega⟩
  have hbl := (Array.getElem?_eq_some_iff.1 hb).1
  have hbW : W.heap[b]? = some (.cells #[stepV f] 80 (0, 0)) := (D0.block b hbl).trans hb
  have hcpW : ∀ ty, (Builtin.copy_ #[57, 57] ty #[.slice (some ⟨w.heap.size, 0, none⟩) c c, .slice (some ⟨b, 0, none⟩) 1 1]).run Tryd.prog W = .ok (goInt 1) (W.setCells w.heap.size 0 [stepV f]) := fun ty => by
    have := run_copy_cells (P := Tryd.prog) W 57 57 ty 80 w.heap.size 0 c c ⟨b, 0, none⟩ 1 1 [stepV f] Tryd.underlying57 mkF_size (by simp [Nat.min_def]; omega)
      (fun j v hj => by
        match j, hj with
        | 0, hj =>
          simp at hj
          subst hj
          rw [show (⟨b, 0, none⟩ : Addr).add 0 = ⟨b, 0, none⟩ by simp [Addr.add], cell_of_row W b 0 _ _ _ hbW]
          rfl)
      (fun j hj => by obtain ⟨v, hv⟩ := HF0.cell (j := 0 + j) (by simp at hj; omega); rw [hv]; rfl) (fun j _ => HF0.frozen _) (by simp [stepV, Value.oneCell'])
    exact this
  have HF1 : Hid (FB (W.setCells w.heap.size 0 [stepV f]) w.heap.size f c 1) := HF0.set 1 0 (by omega)
  have E1 : Below w.heap.size w (W.setCells w.heap.size 0 [stepV f]) := below_cells (Nat.le_refl _) _ _ _ D0
  obtain ⟨W1, hW1⟩ : ∃ W1, W1 = W.setCells w.heap.size 0 [stepV f] := ⟨_, rfl⟩
  rw [← hW1] at HF1 E1 hcpW
  clear hb HF0 hbW D0
  rw [hW] at hcpW
  clear hW hW1
  go_enter Tryd.func55, Tryd.ntmps55
  go_wp2_with (go_at_call 67; refine (HM.out _).mono ?_; rintro e w' ⟨rfl, rfl⟩)
  clear hcpW hmk HM
  go_loopw [8] (fun nv wr => ∃ n : Nat, 1 ≤ n ∧ n ≤ c ∧ nv = .int .i64 n ∧ Hid (FB wr w.heap.size f c n) ∧ Below w.heap.size w wr) (fun nv _ => c - (intOf nv).toNat)
  case atStart => exact ⟨1, by omega, by omega, rfl, HF1, E1⟩
  case round =>
    clear HF1 E1
    obtain ⟨n, hn1, hnc, rfl, HF, hE⟩ := hrel
    by_cases hlt : (n : Int) < c
    · have hnl : n < c := by omega
      obtain ⟨d, hd⟩ : ∃ d, d = Nat.min n (c - n) := ⟨_, rfl⟩
      have hd1 : 1 ≤ d := by rw [hd]; exact Nat.le_min.2 ⟨hn1, by omega⟩
      have hd2 : d ≤ n := by rw [hd]; exact Nat.min_le_left _ _
      have hd3 : d ≤ c - n := by rw [hd]; exact Nat.min_le_right _ _
      have hcp0 := copy_fb HF.out hd hnl
      have hcp1 := copy_fb (W := wr.drew) (HF.out : FB wr.drew w.heap.size f c n) hd hnl
      have hnn : (0 : Int) ≤ n := by omega
      have hni : (n : Int) ≤ 11 := by omega
      have hdi : (d : Int) ≤ 11 := by omega
      have hE1 : Below w.heap.size w wr.drew := hE.drew
      have HF2 : Hid (FB (wr.drew.setCells w.heap.size n (List.replicate d (stepV f))) w.heap.size f c (n + d)) := FB.set d n (HF.out : FB wr.drew w.heap.size f c n) (by omega)
      have hE2 := Lib.hid (below_cells (Nat.le_refl w.heap.size) (List.replicate d (stepV f)) n _ hE1)
      clear hd HF hE1
      go_wp2_with fail
      go_region_with (fail)
      all_goals go_simp
      all_goals
        have hw : IntKind.i64.wrap ((n : Int) + d) = ((n + d : Nat) : Int) := by rw [IntWalk.i64_in _ (by omega)]; omega
        rw [hw]
        clear hcp0 hcp1 hw
        go_roundw
        case rel => exact ⟨_, _, _, _, _, _, _, _, _, _, _, _, _, _, ⟨n + d, by omega, by omega, rfl, HF2, hE2.out⟩, rfl⟩
        case measure => simp [intOf]; omega
    · obtain rfl : n = c := by omega
      go_wp2_with fail
      go_ret
      exact ⟨rfl, HF.out, hE⟩

/-- A row of steps: f first, then f' to the end. -/
def SB (w : World) (v : Value) (f f' : FuncId) (c : Nat) : Prop := ∃ g cap, v = .slice (some ⟨g, 0, none⟩) c cap ∧ c ≤ cap ∧ g < w.heap.size ∧ ∀ j, j < c → w.cell? ⟨g, j, none⟩ = some (stepV (if j = 0 then f else f'))
theorem SB.below {w w' : World} {v : Value} {f f' : FuncId} {c : Nat} (h : SB w v f f' c) (hb : Below w.heap.size w w') : SB w' v f f' c := by
  obtain ⟨g, cap, rfl, h0, h1, h2⟩ := h
  exact ⟨g, cap, rfl, h0, Nat.lt_of_lt_of_le h1 hb.size, fun j hj => (hb.cell (p := ⟨g, j, none⟩) h1).trans (h2 j hj)⟩
end Go.Proofs.YtkflcjhoghiffaaDoor
