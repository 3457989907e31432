/-
  Slices of numbers that the call owns; the laws' helpers that write marks into them and look them up.
-/
import Derived.Test.YtlodaeoikkjbkaaDoorInts
namespace Go.Proofs.YtlodaeoikkjbkaaDoor
set_option maxRecDepth 100000
open Go.RowKit

/-- The slice u owns, from block B on, just the numbers of L. -/
def Own (w : World) (B : Nat) (u : Value) (L : List Int) : Prop := w.ownsRow B 2 1 u L.length (L.map (Value.int .i64))
theorem Own.form {w : World} {B : Nat} {u : Value} {L : List Int} (h : Own w B u L) : (u = .slice none 0 0 ∧ L = []) ∨ ∃ g cap, u = .slice (some ⟨g, 0, none⟩) L.length cap ∧ B ≤ g ∧ g < w.heap.size := by
  rcases h.2 with ⟨rfl, h0⟩ | ⟨g, cap, cur, rfl, hb, hg, _⟩
  · exact .inl ⟨rfl, List.eq_nil_of_length_eq_zero h0⟩
  · exact .inr ⟨g, cap, rfl, hb, (Array.getElem?_eq_some_iff.1 hg).1⟩
theorem map_at (L : List Int) (i : Nat) (h : i < L.length) : (L.map (Value.int .i64))[i]? = some (.int .i64 (el L i)) := by
  rw [List.getElem?_map, List.getElem?_eq_getElem h, el_lt h]; rfl
theorem Own.sl {w : World} {B : Nat} {u : Value} {L : List Int} (h : Own w B u L) : Sl w u L := by
  rcases h.form with ⟨rfl, rfl⟩ | ⟨g, cap, rfl, hb, hg⟩
  · exact .inl ⟨_, _, rfl, rfl⟩
  · refine .inr ⟨g, 0, cap, rfl, hg, fun i hi => ?_⟩
    rw [Nat.zero_add, World.ownsRow.cellAt h i (by omega)]
    exact map_at L i hi
theorem Own.kept {w w' : World} {B : Nat} {u : Value} {L : List Int} {row : Option Nat} (h : Own w B u L) (hg : w.grownBy w' row) (hne : u.ownBlock = none ∨ u.ownBlock ≠ row) : Own w' B u L := World.ownsRow.kept h hg hne
theorem grown_of_below {w w' : World} (h : Below w.heap.size w w') (row : Option Nat) : w.grownBy w' row := ⟨h.os, h.tape, h.output, h.size, fun k hk _ => h.block k hk⟩
theorem Own.below {w w' : World} {B : Nat} {u : Value} {L : List Int} (h : Own w B u L) (hb : Below w.heap.size w w') : Own w' B u L :=
  h.kept (grown_of_below hb none) (by cases u.ownBlock <;> simp)
theorem Own.base {w : World} {B B' : Nat} {u : Value} {L : List Int} (h : Own w B u L) (hb : B' ≤ B) : Own w B' u L :=
  ⟨h.1, h.2.imp id fun ⟨g, cap, cur, e, hB, r⟩ => ⟨g, cap, cur, e, Nat.le_trans hb hB, r⟩⟩
theorem Own.nil (w : World) (B : Nat) : Own w B (.slice none 0 0) [] := World.ownsRow_nil w B _ 1
theorem Own.of_blk {w : World} {B g : Nat} {L : List Int} (h : Blk w g L) (hB : B ≤ g) (hl : L.length ≤ maxLen) : Own w B (.slice (some ⟨g, 0, none⟩) L.length L.length) L :=
  ⟨by simp, .inr ⟨g, L.length, intsA L, rfl, hB, h, Nat.le_refl _, hl, by rw [intsA_size]; simp, by rw [List.take_of_length_le (by simp [intsA])]; simp [intsA]⟩⟩
theorem Own.ge {w : World} {B : Nat} {u : Value} {L : List Int} (h : Own w B u L) : ∀ k, u.ownBlock = some k → B ≤ k := fun k e => (World.ownsRow.lt h k e).1
theorem Own.lt {w : World} {B : Nat} {u : Value} {L : List Int} (h : Own w B u L) : ∀ k, u.ownBlock = some k → k < w.heap.size := fun k e => (World.ownsRow.lt h k e).2

/-- The marks from k on, n of them. -/
def markL (k : Int) (n : Nat) : List Int := (List.range n).map fun i : Nat => k + (i : Int)
theorem markL_length (k : Int) (n : Nat) : (markL k n).length = n := by simp [markL]
/-- The first j numbers overwritten by marks. -/
def mixL (k : Int) (L : List Int) (j : Nat) : List Int := markL k j ++ L.drop j
theorem mixL_length (k : Int) (L : List Int) (j : Nat) (h : j ≤ L.length) : (mixL k L j).length = L.length := by simp [mixL, markL_length]; omega
theorem mixL_zero (k : Int) (L : List Int) : mixL k L 0 = L := by simp [mixL, markL]
theorem mixL_all (k : Int) (L : List Int) : mixL k L L.length = markL k L.length := by simp [mixL]
theorem mixL_succ (k : Int) (L : List Int) (j : Nat) (h : j < L.length) : (mixL k L j).set j (k + (j : Int)) = mixL k L (j + 1) := by
  unfold mixL
  rw [List.set_append_right _ _ (by rw [markL_length]; omega), markL_length, Nat.sub_self]
  have e1 : markL k (j + 1) = markL k j ++ [k + (j : Int)] := by simp [markL, List.range_succ]
  rw [e1, List.append_assoc, List.drop_eq_getElem_cons h]
  rfl
theorem el_markL (k : Int) (n i : Nat) (h : i < n) : el (markL k n) i = k + (i : Int) := by simp [el, markL, h]

theorem grown_trans {w w1 w2 : World} {row : Option Nat} (h : w.grownBy w1 row) (k : w1.grownBy w2 row) : w.grownBy w2 row :=
  ⟨k.os.trans h.os, k.tape.trans h.tape, k.output.trans h.output, Nat.le_trans h.size k.size, fun i hi hne => (k.block i (Nat.lt_of_lt_of_le hi h.size) hne).trans (h.block i hi hne)⟩
theorem grown_set {w wr : World} {g : Nat} (h : w.grownBy wr (some g)) (g' j : Nat) (v : Value) (e : g' = g := by rfl) : w.grownBy (wr.setCell ⟨g', j, none⟩ v) (some g) := by
  subst e
  exact grown_trans h ⟨rfl, rfl, rfl, by simp, fun k _ hk => heap_setCell_other wr ⟨g', j, none⟩ k v (fun e => hk (by simp [e]))⟩

set_option maxHeartbeats 800000 in
theorem markInts_none (k : Int) (w : World) :
    Calls Tryd.prog 17 #[.slice none 0 0, .int .i64 k] w fun e w' => e = .returned (.int .i64 k) ∧ w = w' := by
  go_enter Tryd.func17, Tryd.ntmps17
  go_wp2
  go_loop [1, 5] (fun kk i => kk = .int .i64 k ∧ i = .int .i64 0) (fun _ _ => 0)
  case atStart => exact ⟨rfl, rfl⟩
  case round =>
    obtain ⟨rfl, rfl⟩ := hrel
    go_wp2
    go_ret
    exact ⟨rfl, rfl⟩

set_option maxHeartbeats 800000 in
theorem markInts_some (g cap B : Nat) (L : List Int) (k : Int) (w : World) (h : Own w B (.slice (some ⟨g, 0, none⟩) L.length cap) L) (hk0 : 0 ≤ k) (hk1 : k ≤ 9007199254740992) (hl : L.length ≤ 9007199254740992) :
    Calls Tryd.prog 17 #[.slice (some ⟨g, 0, none⟩) L.length cap, .int .i64 k] w fun e w' => e = .returned (.int .i64 (k + (L.length : Int))) ∧ Own w' B (.slice (some ⟨g, 0, none⟩) L.length cap) (markL k L.length) ∧ w.grownBy w' (some g) ∧ w'.heap.size = w.heap.size := by
  have H := Lib.hid h; clear h
  go_enter Tryd.func17, Tryd.ntmps17
  go_wp2
  go_loopw [1, 5] (fun kk i wr => ∃ j : Nat, j ≤ L.length ∧ i = .int .i64 j ∧ kk = .int .i64 (k + (j : Int)) ∧ Hid (Own wr B (.slice (some ⟨g, 0, none⟩) L.length cap) (mixL k L j)) ∧ w.grownBy wr (some g) ∧ Hid (wr.heap.size = w.heap.size)) (fun _ i _ => L.length - (intOf i).toNat)
  case atStart => exact ⟨0, Nat.zero_le _, rfl, by simp, by show Own _ _ _ _; rw [mixL_zero]; exact H.out, ⟨rfl, rfl, rfl, Nat.le_refl _, fun _ _ _ => rfl⟩, rfl⟩
  case round =>
    obtain ⟨j, hj, rfl, rfl, HO, hgr, HZ⟩ := hrel
    by_cases hlt : (j : Int) < L.length
    · have hjl : j < L.length := by omega
      have hml := mixL_length k L j hj
      have ho : wr.ownsRow B 2 1 (.slice (some ⟨g, 0, none⟩) L.length cap) L.length ((mixL k L j).map (Value.int .i64)) := by have := HO.out; unfold Own at this; rw [hml] at this; exact this
      have hc : wr.cell? ⟨g, j, none⟩ = some (.int .i64 (el (mixL k L j) j)) := (World.ownsRow.cellAt ho j (by omega)).trans (map_at _ j (by omega))
      have hf : wr.frozen? ⟨g, j, none⟩ = false := World.ownsRow.frozenAt ho j
      have HS : Hid (Own (wr.setCell ⟨g, j, none⟩ (.int .i64 (k + (j : Int)))) B (.slice (some ⟨g, 0, none⟩) L.length cap) (mixL k L (j + 1))) := by
        show Own _ _ _ _
        have := World.ownsRow.stored ho j (.int .i64 (k + (j : Int)))
        rw [← List.map_set, mixL_succ k L j hjl] at this
        unfold Own
        rw [mixL_length k L (j + 1) hjl]
        exact this.1
      have hgs : w.grownBy (wr.setCell ⟨g, j, none⟩ (.int .i64 (k + (j : Int)))) (some g) := grown_set hgr g j _
      clear hml ho
      have hj0 : (0 : Int) ≤ j := by omega
      go_wp2
      go_roundw
      case rel => exact ⟨j + 1, by omega, by go_num, by go_num, HS, hgs, by show _ = _; simp [HZ.out]⟩
      case measure => simp [intOf]; omega
    · have hjl : j = L.length := by omega
      subst hjl
      go_wp2
      go_ret
      exact ⟨rfl, by have := HO.out; rw [mixL_all] at this; exact this, hgr, HZ.out⟩

/-- What a call that writes marks into u leaves. -/
def Marked (w w' : World) (B : Nat) (u : Value) (L : List Int) : Prop := Own w' B u L ∧ w.grownBy w' u.ownBlock ∧ w'.heap.size = w.heap.size
theorem markInts_any (u : Value) (B : Nat) (L : List Int) (k : Int) (w : World) (h : Own w B u L) (hk0 : 0 ≤ k) (hk1 : k ≤ 9007199254740992) (hl : L.length ≤ 9007199254740992) :
    Calls Tryd.prog 17 #[u, .int .i64 k] w fun e w' => e = .returned (.int .i64 (k + (L.length : Int))) ∧ Marked w w' B u (markL k L.length) := by
  rcases h.form with ⟨rfl, rfl⟩ | ⟨g, cap, rfl, hb, hg⟩
  · refine (markInts_none k w).mono fun e w' ⟨he, hw⟩ => ?_
    subst hw
    exact ⟨by rw [he]; simp, Own.nil w B, ⟨rfl, rfl, rfl, Nat.le_refl _, fun _ _ _ => rfl⟩, rfl⟩
  · exact (markInts_some g cap B L k w h hk0 hk1 hl).mono fun e w' ⟨he, ho, hgr, hz⟩ => ⟨he, ho, hgr, hz⟩

set_option maxHeartbeats 800000 in
theorem heldInts_any (u : Value) (n : Nat) (k : Int) (w : World) (h : Sl w u (markL k n)) (hk0 : 0 ≤ k) (hk1 : k ≤ 9007199254740992) (hl : n ≤ 9007199254740992) :
    Calls Tryd.prog 18 #[u, .int .i64 k] w fun e w' => e = .returned (.int .i64 (k + (n : Int))) ∧ w = w' := by
  have HS := Lib.hid h
  have hf := slForm h
  rw [markL_length] at hf
  by_cases h0 : n = 0
  · subst h0
    rw [hf]; clear hf h HS
    go_enter Tryd.func18, Tryd.ntmps18
    go_wp2
    go_loop [1, 5] (fun kk i => kk = .int .i64 k ∧ i = .int .i64 0) (fun _ _ => 0)
    case atStart => exact ⟨rfl, rfl⟩
    case round =>
      obtain ⟨rfl, rfl⟩ := hrel
      go_wp2
      go_ret
      exact ⟨ret_int (by simp), rfl⟩
  · clear hf
    rcases h with ⟨_, _, _, hm⟩ | ⟨b, off, cap, rfl, hb, hc⟩
    · have := congrArg List.length hm; rw [markL_length] at this; simp at this; omega
    · have HC := Lib.hid hc; clear hc HS
      rw [markL_length]
      go_enter Tryd.func18, Tryd.ntmps18
      go_wp2
      go_loop [1, 5] (fun kk i => ∃ j : Nat, j ≤ n ∧ i = .int .i64 j ∧ kk = .int .i64 (k + (j : Int))) (fun _ i => n - (intOf i).toNat)
      case atStart => exact ⟨0, Nat.zero_le _, rfl, by simp⟩
      case round =>
        obtain ⟨j, hj, rfl, rfl⟩ := hrel
        by_cases hlt : (j : Int) < n
        · have hjn : j < n := by omega
          have hz : w.cell? ⟨b, off + j, none⟩ = some (.int .i64 (k + (j : Int))) := by rw [← el_markL k n j hjn]; exact HC.out j (by rw [markL_length]; exact hjn)
          have hne : ((k + (j : Int)) != (k + (j : Int))) = false := by simp
          have hj0 : (0 : Int) ≤ j := by omega
          go_wp2
          go_round
          case rel => exact ⟨j + 1, by omega, by go_num, by go_num⟩
          case measure => simp [intOf]; omega
        · have hjn : j = n := by omega
          subst hjn
          go_wp2
          go_ret
          exact ⟨rfl, rfl⟩

/-- Marks written into u; besides, blocks may be new. -/
def Touched (w w' : World) (B : Nat) (u : Value) (L : List Int) : Prop := Own w' B u L ∧ w.grownBy w' u.ownBlock

set_option maxHeartbeats 800000 in
theorem markGraph_any (n : Int) (u : Value) (B : Nat) (L : List Int) (k : Int) (w : World) (h : Own w B u L) (hk0 : 0 ≤ k) (hk1 : k ≤ 9007199254740992) (hl : L.length ≤ 9007199254740992) :
    Calls Tryd.prog 16 #[.agg #[.int .i64 n, u], .int .i64 k] w fun e w' => e = .returned (.int .i64 (k + (L.length : Int))) ∧ Touched w w' B u (markL k L.length) := by
  have D0 : Below w.heap.size w (w.alloc (.cells #[.int .i64 n, u] 28)) := (Below.refl _ _).alloc (Nat.le_refl _) _
  have hm := markInts_any u B L k (w.alloc (.cells #[.int .i64 n, u] 28)) (h.below D0) hk0 hk1 hl
  have hg0 := Lib.hid (World.grownBy_alloc w (.cells #[.int .i64 n, u] 28) u.ownBlock)
  clear h
  go_enter Tryd.func16, Tryd.ntmps16
  go_wp2_with (go_at_call 17; refine hm.mono ?_; rintro e w1 ⟨rfl, hM⟩; have HM := Lib.hid hM; clear hM)
  go_ret
  exact ⟨rfl, HM.out.1, grown_trans hg0.out HM.out.2.1⟩

set_option maxHeartbeats 800000 in
theorem heldGraph_any (m : Int) (u : Value) (n : Nat) (k : Int) (w : World) (h : Sl w u (markL k n)) (hk0 : 0 ≤ k) (hk1 : k ≤ 9007199254740992) (hl : n ≤ 9007199254740992) :
    Calls Tryd.prog 26 #[.agg #[.int .i64 m, u], .int .i64 k] w fun e w' => e = .returned (.int .i64 (k + (n : Int))) ∧ Below w.heap.size w w' := by
  have D0 : Below w.heap.size w (w.alloc (.cells #[.int .i64 m, u] 28)) := (Below.refl _ _).alloc (Nat.le_refl _) _
  have hm := heldInts_any u n k (w.alloc (.cells #[.int .i64 m, u] 28)) (h.below D0) hk0 hk1 hl
  clear h D0
  go_enter Tryd.func26, Tryd.ntmps26
  go_wp2_with (go_at_call 18; refine hm.mono ?_; rintro e w1 ⟨rfl, rfl⟩)
  go_ret
  exact ⟨rfl, (Below.refl _ _).alloc (Nat.le_refl _) _⟩
end Go.Proofs.YtlodaeoikkjbkaaDoor
