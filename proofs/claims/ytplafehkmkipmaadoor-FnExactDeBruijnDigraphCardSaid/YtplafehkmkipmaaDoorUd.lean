/-
  Answers that are lists of lists: owned, marked, held. (A plain seat.)
-/
import Derived.Test.YtplafehkmkipmaaDoorSu
import Derived.Test.YtplafehkmkipmaaDoorTp
namespace Go.Proofs.YtplafehkmkipmaaDoor
set_option maxRecDepth 100000
open Go.RowKit

/-- The slice v owns, from block B on, the lists of Ls: each list in a row of its own. -/
def LO (w : World) (B : Nat) (v : Value) (Ls : List (List Int)) : Prop :=
  (v = .slice none 0 0 ∧ Ls = []) ∨ ∃ (g cap : Nat) (us : Nat → Value), v = .slice (some ⟨g, 0, none⟩) Ls.length cap ∧ B ≤ g ∧ g < w.heap.size ∧
    (∀ i, i < Ls.length → w.cell? ⟨g, i, none⟩ = some (us i) ∧ Own w B (us i) (elS Ls i) ∧ (us i).ownBlock ≠ some g) ∧
    ∀ i j b, i ≠ j → i < Ls.length → j < Ls.length → (us i).ownBlock = some b → (us j).ownBlock ≠ some b
theorem LO.ss {w : World} {B : Nat} {v : Value} {Ls : List (List Int)} (h : LO w B v Ls) : SS w v Ls := by
  rcases h with ⟨rfl, rfl⟩ | ⟨g, cap, us, rfl, _, hg, hc, _⟩
  · exact .inl ⟨_, _, rfl, rfl⟩
  · exact .inr ⟨g, 0, cap, us, rfl, hg, fun i hi => ⟨by rw [Nat.zero_add]; exact (hc i hi).1, (hc i hi).2.1.sl⟩⟩
theorem LO.below {w w' : World} {B : Nat} {v : Value} {Ls : List (List Int)} (h : LO w B v Ls) (hb : Below w.heap.size w w') : LO w' B v Ls := by
  rcases h with h | ⟨g, cap, us, rfl, hB, hg, hc, hd⟩
  · exact .inl h
  · exact .inr ⟨g, cap, us, rfl, hB, Nat.lt_of_lt_of_le hg hb.size, fun i hi => ⟨(hb.cell (p := ⟨g, i, none⟩) hg).trans (hc i hi).1, (hc i hi).2.1.below hb, (hc i hi).2.2⟩, hd⟩
theorem TS.ss {w : World} {B : Nat} {v : Value} {Ts : List (List Int)} (h : TS w B v Ts) : SS w v Ts := by
  rcases h.form with ⟨rfl, rfl⟩ | ⟨g, cap, rfl, _, hg⟩
  · exact .inl ⟨_, _, rfl, rfl⟩
  · obtain ⟨cs, h1, h2, h3⟩ := h
    refine .inr ⟨g, 0, cap, fun i => cs.getD i (.bool false), rfl, hg, fun i hi => ?_⟩
    obtain ⟨u, a, b, _⟩ := h3 i hi
    have e : cs.getD i (.bool false) = u := by rw [List.getD_eq_getElem?_getD, a]; rfl
    show w.cell? ⟨g, 0 + i, none⟩ = some (cs.getD i (.bool false)) ∧ Sl w (cs.getD i (.bool false)) (elS Ts i)
    rw [e, Nat.zero_add]
    exact ⟨(World.ownsRow.cellAt h1 i (by omega)).trans a, b.sl⟩

/-- The marks that a list of lists gets. -/
def markLL (k : Int) (Ls : List (List Int)) : List (List Int) := (List.range Ls.length).map fun i => markL (k + (tot Ls i : Int)) (elS Ls i).length
theorem markLL_length (k : Int) (Ls : List (List Int)) : (markLL k Ls).length = Ls.length := by simp [markLL]
theorem markLL_at (k : Int) (Ls : List (List Int)) (i : Nat) (h : i < Ls.length) : elS (markLL k Ls) i = markL (k + (tot Ls i : Int)) (elS Ls i).length := by simp [elS, markLL, h]
/-- What a call that writes marks into v's lists leaves. -/
def MarkedLL (w w' : World) (B : Nat) (v : Value) (k : Int) (Ls : List (List Int)) : Prop := SS w' v (markLL k Ls) ∧ Below B w w' ∧ w'.heap.size = w.heap.size

set_option maxHeartbeats 800000 in
theorem markLO_nil (B : Nat) (k : Int) (w : World) :
    Calls Tryd.prog 9 #[.slice none 0 0, .int .i64 k] w fun e w' => e = .returned (.int .i64 k) ∧ MarkedLL w w' B (.slice none 0 0) k [] := by
  go_enter Tryd.func9, Tryd.ntmps9
  go_wp2
  go_loopw [1, 5] (fun kk i wr => i = .int .i64 0 ∧ kk = .int .i64 k ∧ wr = w) (fun _ _ _ => 0)
  case atStart => exact ⟨rfl, rfl, rfl⟩
  case round =>
    obtain ⟨rfl, rfl, rfl⟩ := hrel
    go_wp2
    go_ret
    exact ⟨rfl, .inl ⟨_, _, rfl, rfl⟩, Below.refl _ _, rfl⟩

set_option maxHeartbeats 1600000 in
theorem markLO_some (B g cap : Nat) (us : Nat → Value) (Ls : List (List Int)) (k : Int) (w : World) (hB : B ≤ g) (hg : g < w.heap.size)
    (hc : ∀ i, i < Ls.length → w.cell? ⟨g, i, none⟩ = some (us i) ∧ Own w B (us i) (elS Ls i) ∧ (us i).ownBlock ≠ some g)
    (hd : ∀ i j b, i ≠ j → i < Ls.length → j < Ls.length → (us i).ownBlock = some b → (us j).ownBlock ≠ some b)
    (hk0 : 0 ≤ k) (hk1 : k ≤ 1048576) (hl : Ls.length + tot Ls Ls.length ≤ 1048576) :
    Calls Tryd.prog 9 #[.slice (some ⟨g, 0, none⟩) Ls.length cap, .int .i64 k] w fun e w' => e = .returned (.int .i64 (k + (tot Ls Ls.length : Int))) ∧ MarkedLL w w' B (.slice (some ⟨g, 0, none⟩) Ls.length cap) k Ls := by
  have HL := Lib.hid hl; have HD := Lib.hid hd
  have hln : Ls.length ≤ 1048576 := by omega
  have HC0 : Hid (∀ i, i < Ls.length → w.cell? ⟨g, i, none⟩ = some (us i) ∧ Own w B (us i) (if i < 0 then markL (k + (tot Ls i : Int)) (elS Ls i).length else elS Ls i) ∧ (us i).ownBlock ≠ some g) := fun i hi => by
    rw [if_neg (by omega)]; exact hc i hi
  clear hl hd hc
  go_enter Tryd.func9, Tryd.ntmps9
  go_wp2
  go_loopw [1, 5] (fun kk i wr => ∃ j t : Nat, j ≤ Ls.length ∧ i = .int .i64 j ∧ kk = .int .i64 (k + (t : Int)) ∧ Hid (t = tot Ls j) ∧ t ≤ 1048576 ∧ Hid (Below B w wr) ∧ wr.heap.size = w.heap.size ∧ Hid (∀ i, i < Ls.length → wr.cell? ⟨g, i, none⟩ = some (us i) ∧ Own wr B (us i) (if i < j then markL (k + (tot Ls i : Int)) (elS Ls i).length else elS Ls i) ∧ (us i).ownBlock ≠ some g)) (fun _ i _ => Ls.length - (intOf i).toNat)
  case atStart => exact ⟨0, 0, Nat.zero_le _, rfl, by simp, rfl, by omega, Below.refl _ _, rfl, HC0⟩
  case round =>
    obtain ⟨j, t, hj, rfl, rfl, HT, ht, HR, hsz, HC⟩ := hrel
    by_cases hlt : (j : Int) < Ls.length
    · have hjl : j < Ls.length := by omega
      obtain ⟨hcell0, how, hng⟩ := HC.out j hjl
      rw [if_neg (by omega)] at how
      have hts : tot Ls (j + 1) = tot Ls j + (elS Ls j).length := rfl
      have hmo := tot_mono Ls (j + 1) Ls.length (by omega)
      have hllb := HL.out
      have htj := HT.out
      have hf := slForm how.sl
      have HUF := Lib.hid hf
      have hcell : wr.cell? ⟨g, j, none⟩ = some (.slice (slPtr (us j)) (elS Ls j).length (slCap (us j))) := by rw [← HUF.out]; exact hcell0
      have hcon := markInts_any (us j) B (elS Ls j) (k + (t : Int)) wr how (by omega) (by omega) (by omega)
      rw [hf] at hcon
      have HCON := Lib.hid hcon
      have hj0 : (0 : Int) ≤ j := by omega
      have HT2 : Hid (t + (elS Ls j).length = tot Ls (j + 1)) := by show _ = _; rw [hts, ← htj]
      have ht2 : t + (elS Ls j).length ≤ 1048576 := by omega
      have HNG := Lib.hid hng
      have HGE := Lib.hid how.ge
      clear hts hmo hllb htj hcon how hcell0 hf hng
      go_wp2_with fail
      refine HCON.out.mono ?_
      rintro e w1 ⟨rfl, hOm, hg1, hsz1⟩
      rw [← HUF.out] at hOm hg1
      have HR2 : Hid (Below B w w1) := HR.out.grown hg1 (by rw [← hsz] at hg; exact Nat.le_of_lt (Nat.lt_of_le_of_lt hB hg)) (fun b e => HGE.out b e)
      have HC2 : Hid (∀ i, i < Ls.length → w1.cell? ⟨g, i, none⟩ = some (us i) ∧ Own w1 B (us i) (if i < j + 1 then markL (k + (tot Ls i : Int)) (elS Ls i).length else elS Ls i) ∧ (us i).ownBlock ≠ some g) := fun i hi => by
        obtain ⟨a, b, c⟩ := HC.out i hi
        refine ⟨?_, ?_, c⟩
        · have e := hg1.block g (by omega) (fun e => HNG.out e.symm)
          unfold World.cell? at a ⊢
          simp only [e]
          exact a
        · by_cases e : i = j
          · subst e
            rw [if_pos (by omega), ← HT.out]; exact hOm
          · have e2 : (if i < j + 1 then markL (k + (tot Ls i : Int)) (elS Ls i).length else elS Ls i) = if i < j then markL (k + (tot Ls i : Int)) (elS Ls i).length else elS Ls i := by
              by_cases h : i < j
              · rw [if_pos h, if_pos (by omega)]
              · rw [if_neg h, if_neg (by omega)]
            rw [e2]
            refine b.kept hg1 ?_
            cases hq : (us i).ownBlock with
            | none => exact .inl rfl
            | some q => exact .inr fun e3 => HD.out i j q e hi hjl hq e3.symm
      have hsz2 : w1.heap.size = w.heap.size := hsz1.trans hsz
      clear hg1 hOm HR HCON hcell HC hsz1 hsz
      go_wp2_with fail
      go_roundw
      case rel => exact ⟨j + 1, t + (elS Ls j).length, by omega, by go_num, by go_num, HT2, ht2, HR2, hsz2, HC2⟩
      case measure => simp [intOf]; omega
    · obtain rfl : j = Ls.length := by omega
      have E := Lib.hid HT.out
      go_wp2
      go_ret
      refine ⟨ret_int (by rw [E.out]), .inr ⟨g, 0, cap, us, by rw [markLL_length], by omega, fun i hi => ?_⟩, HR.out, hsz⟩
      rw [markLL_length] at hi
      obtain ⟨a, b, _⟩ := HC.out i hi
      rw [if_pos hi] at b
      rw [Nat.zero_add, markLL_at k Ls i hi]
      exact ⟨a, b.sl⟩

theorem markLO_any (B : Nat) (v : Value) (Ls : List (List Int)) (k : Int) (w : World) (h : LO w B v Ls) (hk0 : 0 ≤ k) (hk1 : k ≤ 1048576) (hl : Ls.length + tot Ls Ls.length ≤ 1048576) :
    Calls Tryd.prog 9 #[v, .int .i64 k] w fun e w' => e = .returned (.int .i64 (k + (tot Ls Ls.length : Int))) ∧ MarkedLL w w' B v k Ls := by
  rcases h with ⟨rfl, rfl⟩ | ⟨g, cap, us, rfl, hB, hg, hc, hd⟩
  · have := markLO_nil B k w
    simpa [tot] using this
  · exact markLO_some B g cap us Ls k w hB hg hc hd hk0 hk1 hl

set_option maxHeartbeats 800000 in
theorem heldSS_nil (a : Option Addr) (c : Nat) (k : Int) (w : World) :
    Calls Tryd.prog 10 #[.slice a 0 c, .int .i64 k] w fun e w' => e = .returned (.int .i64 k) ∧ w = w' := by
  go_enter Tryd.func10, Tryd.ntmps10
  go_wp2
  go_loop [1, 5] (fun kk i => i = .int .i64 0 ∧ kk = .int .i64 k) (fun _ _ => 0)
  case atStart => exact ⟨rfl, rfl⟩
  case round =>
    obtain ⟨rfl, rfl⟩ := hrel
    go_wp2
    go_ret
    exact ⟨rfl, rfl⟩

set_option maxHeartbeats 1600000 in
theorem heldSS_some (b off cap n : Nat) (Ls : List (List Int)) (k : Int) (w : World) (hn : Ls.length = n) (hc : Rows w b off (markLL k Ls)) (hk0 : 0 ≤ k) (hk1 : k ≤ 1048576) (hl : Ls.length + tot Ls Ls.length ≤ 1048576) :
    Calls Tryd.prog 10 #[.slice (some ⟨b, off, none⟩) n cap, .int .i64 k] w fun e w' => e = .returned (.int .i64 (k + (tot Ls Ls.length : Int))) ∧ w = w' := by
  subst hn
  have HL := Lib.hid hl; have HC := Lib.hid hc
  have hln : Ls.length ≤ 1048576 := by omega
  clear hl hc
  go_enter Tryd.func10, Tryd.ntmps10
  go_wp2
  go_loop [1, 5] (fun kk i => ∃ j t : Nat, j ≤ Ls.length ∧ i = .int .i64 j ∧ kk = .int .i64 (k + (t : Int)) ∧ Hid (t = tot Ls j) ∧ t ≤ 1048576) (fun _ i => Ls.length - (intOf i).toNat)
  case atStart => exact ⟨0, 0, Nat.zero_le _, rfl, by simp, rfl, by omega⟩
  case round =>
    obtain ⟨j, t, hj, rfl, rfl, HT, ht⟩ := hrel
    by_cases hlt : (j : Int) < Ls.length
    · have hjl : j < Ls.length := by omega
      obtain ⟨p, c, hcell, hsl⟩ := HC.out j (by rw [markLL_length]; exact hjl)
      rw [markLL_at k Ls j hjl, markL_length] at hcell hsl
      have hts : tot Ls (j + 1) = tot Ls j + (elS Ls j).length := rfl
      have hmo := tot_mono Ls (j + 1) Ls.length (by omega)
      have hllb := HL.out
      have htj := HT.out
      rw [← htj] at hsl
      have HCON := Lib.hid (heldInts_any _ (elS Ls j).length (k + (t : Int)) w hsl (by omega) (by omega) (by omega))
      have hj0 : (0 : Int) ≤ j := by omega
      have HT2 : Hid (t + (elS Ls j).length = tot Ls (j + 1)) := by show _ = _; rw [hts, ← htj]
      have ht2 : t + (elS Ls j).length ≤ 1048576 := by omega
      have hnn : (0 : Int) ≤ k + (t : Int) + ((elS Ls j).length : Int) := by omega
      clear hts hmo hllb htj hsl
      go_wp2_with fail
      refine HCON.out.mono ?_
      rintro e w1 ⟨rfl, rfl⟩
      clear HCON hcell
      go_wp2_with fail
      go_round
      case rel => exact ⟨j + 1, t + (elS Ls j).length, by omega, by go_num, by go_num, HT2, ht2⟩
      case measure => simp [intOf]; omega
    · obtain rfl : j = Ls.length := by omega
      have E := Lib.hid HT.out
      go_wp2
      go_ret
      exact ⟨ret_int (by rw [E.out]), rfl⟩

theorem heldLL_any (v : Value) (Ls : List (List Int)) (k : Int) (w : World) (h : SS w v (markLL k Ls)) (hk0 : 0 ≤ k) (hk1 : k ≤ 1048576) (hl : Ls.length + tot Ls Ls.length ≤ 1048576) :
    Calls Tryd.prog 10 #[v, .int .i64 k] w fun e w' => e = .returned (.int .i64 (k + (tot Ls Ls.length : Int))) ∧ w = w' := by
  by_cases h0 : Ls.length = 0
  · obtain rfl := List.eq_nil_of_length_eq_zero h0
    rw [h.form]
    have := heldSS_nil (slPtr v) (slCap v) k w
    simpa [tot, markLL] using this
  · obtain ⟨b, off, cap, rfl, hb, hc⟩ := h.rows (by rw [markLL_length]; omega)
    exact heldSS_some b off cap _ Ls k w (markLL_length k Ls).symm hc hk0 hk1 hl
end Go.Proofs.YtplafehkmkipmaaDoor
