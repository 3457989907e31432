/-
  Lists of lists in a law: read, compared, marked, held. (A tied seat of graphs; out of Ss, Su, Tp and Ud.)
-/
import Derived.Test.YtbncfhmpkoaffaaDoorTl7
import Derived.Test.YtbncfhmpkoaffaaDoorMark
import Derived.Deep.RegionWith
namespace Go.Proofs.YtbncfhmpkoaffaaDoor
set_option maxRecDepth 100000
set_option maxRecDepth 100000
open Go.RowKit

/-- How many numbers the first k lists have. -/
def tot (Ls : List (List Int)) : Nat → Nat
  | 0 => 0
  | k + 1 => tot Ls k + (elS Ls k).length

theorem tot_mono (Ls : List (List Int)) (k : Nat) : ∀ m, k ≤ m → tot Ls k ≤ tot Ls m
  | 0, h => by obtain rfl : k = 0 := by omega
               exact Nat.le_refl _
  | m + 1, h => by
    by_cases e : k = m + 1
    · subst e; exact Nat.le_refl _
    · exact Nat.le_trans (tot_mono Ls k m (by omega)) (Nat.le_add_right _ _)

/-- The slice value v reads as the lists of Ls. -/
def SS (w : World) (v : Value) (Ls : List (List Int)) : Prop :=
  (∃ a c, v = .slice a 0 c ∧ Ls = []) ∨ ∃ (b off cap : Nat) (u : Nat → Value), v = .slice (some ⟨b, off, none⟩) Ls.length cap ∧ b < w.heap.size ∧ ∀ i, i < Ls.length → w.cell? ⟨b, off + i, none⟩ = some (u i) ∧ Sl w (u i) (elS Ls i)

theorem SS.below {w w' : World} {v : Value} {Ls : List (List Int)} (h : SS w v Ls) (hb : Below w.heap.size w w') : SS w' v Ls := by
  rcases h with h | ⟨b, off, cap, u, e, hl, hc⟩
  · exact .inl h
  · exact .inr ⟨b, off, cap, u, e, Nat.lt_of_lt_of_le hl hb.size, fun i hi => ⟨(hb.cell (p := ⟨b, off + i, none⟩) hl).trans (hc i hi).1, (hc i hi).2.below hb⟩⟩

theorem SS.form {w : World} {v : Value} {Ls : List (List Int)} (h : SS w v Ls) : v = .slice (slPtr v) Ls.length (slCap v) := by
  rcases h with ⟨a, c, rfl, rfl⟩ | ⟨b, off, cap, u, rfl, _, _⟩ <;> rfl

/-- Its lists' cells and what they read as, where there is one. -/
def Rows (w : World) (b off : Nat) (Ls : List (List Int)) : Prop := ∀ i, i < Ls.length → ∃ p c, w.cell? ⟨b, off + i, none⟩ = some (.slice p (elS Ls i).length c) ∧ Sl w (.slice p (elS Ls i).length c) (elS Ls i)

theorem SS.rows {w : World} {v : Value} {Ls : List (List Int)} (h : SS w v Ls) (h0 : 0 < Ls.length) : ∃ b off cap, v = .slice (some ⟨b, off, none⟩) Ls.length cap ∧ b < w.heap.size ∧ Rows w b off Ls := by
  rcases h with ⟨a, c, rfl, rfl⟩ | ⟨b, off, cap, u, rfl, hb, hc⟩
  · simp at h0
  · refine ⟨b, off, cap, rfl, hb, fun i hi => ?_⟩
    obtain ⟨h1, h2⟩ := hc i hi
    have hf := slForm h2
    exact ⟨slPtr (u i), slCap (u i), by rw [← hf]; exact h1, by rw [← hf]; exact h2⟩

theorem Rows.below {w w' : World} {b off : Nat} {Ls : List (List Int)} (h : Rows w b off Ls) (hl : b < w.heap.size) (hb : Below w.heap.size w w') : Rows w' b off Ls := fun i hi => by
  obtain ⟨p, c, h1, h2⟩ := h i hi
  exact ⟨p, c, (hb.cell (p := ⟨b, off + i, none⟩) hl).trans h1, h2.below hb⟩


theorem eqInts_eq (v1 v2 : Value) (xs : List Int) (w : World) (h1 : Sl w v1 xs) (h2 : Sl w v2 xs) (hx : xs.length ≤ 9223372036854775807) :
    Calls Tryd.prog 47 #[v1, v2] w fun e w' => e = .returned (.bool true) ∧ Below w.heap.size w w' := by
  have := eqInts_any v1 v2 xs xs w h1 h2 hx
  simpa using this

set_option maxHeartbeats 800000 in
theorem eqSS_nil (a1 a2 : Option Addr) (c1 c2 : Nat) (w : World) :
    Calls Tryd.prog 16 #[.slice a1 0 c1, .slice a2 0 c2] w fun e w' => e = .returned (.bool true) ∧ Below w.heap.size w w' := by
  go_enter Tryd.func16, Tryd.ntmps16
  go_wp2
  go_loopw [5] (fun i wr => i = .int .i64 0 ∧ Below w.heap.size w wr) (fun i _ => 0)
  case atStart => exact ⟨rfl, Below.refl _ _⟩
  case round =>
    obtain ⟨rfl, hb⟩ := hrel
    go_wp2
    go_ret
    exact ⟨rfl, hb⟩

set_option maxHeartbeats 1600000 in
theorem eqSS_some (b1 o1 c1 b2 o2 c2 n : Nat) (Ls : List (List Int)) (w : World) (hn : Ls.length = n) (hb1 : b1 < w.heap.size) (hc1 : Rows w b1 o1 Ls) (hb2 : b2 < w.heap.size) (hc2 : Rows w b2 o2 Ls) (hl : n ≤ 9223372036854775807) (hll : ∀ i, i < Ls.length → (elS Ls i).length ≤ 9223372036854775807) :
    Calls Tryd.prog 16 #[.slice (some ⟨b1, o1, none⟩) n c1, .slice (some ⟨b2, o2, none⟩) n c2] w fun e w' => e = .returned (.bool true) ∧ Below w.heap.size w w' := by
  have HC1 := Lib.hid hc1; have HC2 := Lib.hid hc2; have HN := Lib.hid hn; have HLL := Lib.hid hll
  clear hc1 hc2 hn hll
  go_enter Tryd.func16, Tryd.ntmps16
  go_wp2
  go_loopw [5] (fun i wr => ∃ k : Nat, k ≤ n ∧ i = .int .i64 k ∧ Below w.heap.size w wr) (fun i _ => n - (intOf i).toNat)
  case atStart => exact ⟨0, Nat.zero_le _, rfl, Below.refl _ _⟩
  case round =>
    obtain ⟨k, hk, rfl, hb⟩ := hrel
    by_cases hlt : (k : Int) < n
    · have hkl : k < Ls.length := by have := HN.out; omega
      obtain ⟨p1, q1, z1, s1⟩ := HC1.out k hkl
      obtain ⟨p2, q2, z2, s2⟩ := HC2.out k hkl
      have hz1 : wr.cell? ⟨b1, o1 + k, none⟩ = some (.slice p1 (elS Ls k).length q1) := (hb.cell (p := ⟨b1, o1 + k, none⟩) hb1).trans z1
      have hz2 : wr.cell? ⟨b2, o2 + k, none⟩ = some (.slice p2 (elS Ls k).length q2) := (hb.cell (p := ⟨b2, o2 + k, none⟩) hb2).trans z2
      have hk0 : (0 : Int) ≤ k := by omega
      have hbd : Below w.heap.size w wr.drew := hb.drew
      have HCO := Lib.hid (eqInts_eq _ _ (elS Ls k) wr.drew (s1.below hbd) (s2.below hbd) (HLL.out k hkl))
      have HW : Hid (∀ w1, Below wr.drew.heap.size wr.drew w1 → Below w.heap.size w w1) := fun w1 h => hbd.trans (h.mono hbd.size)
      clear z1 z2 s1 s2
      go_wp2_with fail
      go_region_with (go_at_call 47; refine HCO.out.mono ?_; rintro e w1 ⟨rfl, hb1'⟩; have hb3 := HW.out w1 hb1'; clear hb1')
      all_goals go_wp2_with fail
      all_goals go_roundw
      all_goals first | exact ⟨k + 1, by omega, by go_num, hb3⟩ | (simp [intOf]; omega)
    · go_wp2
      go_ret
      exact ⟨rfl, hb⟩

theorem eqSS_same (v1 v2 : Value) (Ls : List (List Int)) (w : World) (h1 : SS w v1 Ls) (h2 : SS w v2 Ls) (hl : Ls.length ≤ 9223372036854775807) (hll : ∀ i, i < Ls.length → (elS Ls i).length ≤ 9223372036854775807) :
    Calls Tryd.prog 16 #[v1, v2] w fun e w' => e = .returned (.bool true) ∧ Below w.heap.size w w' := by
  by_cases h : Ls.length = 0
  · obtain rfl := List.eq_nil_of_length_eq_zero h
    rw [h1.form, h2.form]
    exact eqSS_nil _ _ _ _ w
  · obtain ⟨b1, o1, c1, rfl, hb1, hc1⟩ := h1.rows (by omega)
    obtain ⟨b2, o2, c2, rfl, hb2, hc2⟩ := h2.rows (by omega)
    exact eqSS_some b1 o1 c1 b2 o2 c2 Ls.length Ls w rfl hb1 hc1 hb2 hc2 hl hll

/-- Of what was there, nothing but blocks from lo up to below hi has turned. -/
def Rng (w w' : World) (lo hi : Nat) : Prop := w'.os = w.os ∧ w'.tape = w.tape ∧ w'.output = w.output ∧ w.heap.size ≤ w'.heap.size ∧ ∀ k, k < w.heap.size → (k < lo ∨ hi ≤ k) → w'.heap[k]? = w.heap[k]?

theorem Rng.refl (w : World) (lo hi : Nat) : Rng w w lo hi := ⟨rfl, rfl, rfl, Nat.le_refl _, fun _ _ _ => rfl⟩

theorem Rng.grown {w w1 w2 : World} {lo hi g : Nat} (h : Rng w w1 lo hi) (hg : w1.grownBy w2 (some g)) (h1 : lo ≤ g) (h2 : g < hi) : Rng w w2 lo hi :=
  ⟨hg.os.trans h.1, hg.tape.trans h.2.1, hg.output.trans h.2.2.1, Nat.le_trans h.2.2.2.1 hg.size, fun k hk ho => (hg.block k (Nat.lt_of_lt_of_le hk h.2.2.2.1) (by simp; omega)).trans (h.2.2.2.2 k hk ho)⟩

theorem Rng.block {w w' : World} {lo hi k : Nat} {x : Obj} (h : Rng w w' lo hi) (hx : w.heap[k]? = some x) (ho : k < lo ∨ hi ≤ k) : w'.heap[k]? = some x := (h.2.2.2.2 k (Array.getElem?_eq_some_iff.1 hx).1 ho).trans hx

theorem Below.rng {B lo hi : Nat} {w w1 w2 : World} (h : Below B w w1) (hr : Rng w1 w2 lo hi) (hB : B ≤ lo) (hs : B ≤ w1.heap.size) : Below B w w2 :=
  ⟨hr.1.trans h.os, hr.2.1.trans h.tape, hr.2.2.1.trans h.output, Nat.le_trans h.size hr.2.2.2.1, fun k hk => (hr.2.2.2.2 k (by omega) (.inl (by omega))).trans (h.block k hk)⟩

theorem Own.rng {w w' : World} {B lo hi : Nat} {u : Value} {L : List Int} (h : Own w B u L) (hr : Rng w w' lo hi) (ho : ∀ k, u.ownBlock = some k → k < lo ∨ hi ≤ k) : Own w' B u L := by
  refine ⟨h.1, h.2.imp id fun ⟨g, cap, cur, e, hB, hg, r⟩ => ⟨g, cap, cur, e, hB, hr.block hg (ho g (by rw [e]; rfl)), r⟩⟩

theorem TS.rows {w : World} {B g cap : Nat} {Ts : List (List Int)} (h : TS w B (.slice (some ⟨g, 0, none⟩) Ts.length cap) Ts) : Rows w g 0 Ts := fun i hi => by
  obtain ⟨u, a, b, _⟩ := h.at hi
  have hf := slForm b.sl
  exact ⟨slPtr u, slCap u, by rw [Nat.zero_add, ← hf]; exact a, by rw [← hf]; exact b.sl⟩


/-- The slice v owns, from block B on, the lists of Ls: each list in a row of its own. -/
def LO (w : World) (B : Nat) (v : Value) (Ls : List (List Int)) : Prop :=
  (v = .slice none 0 0 ∧ Ls = []) ∨ ∃ (g cap : Nat) (us : Nat → Value), v = .slice (some ⟨g, 0, none⟩) Ls.length cap ∧ B ≤ g ∧ g < w.heap.size ∧
    (∀ i, i < Ls.length → w.cell? ⟨g, i, none⟩ = some (us i) ∧ Own w B (us i) (elS Ls i) ∧ (us i).ownBlock ≠ some g) ∧
    ∀ i j b, i ≠ j → i < Ls.length → j < Ls.length → (us i).ownBlock = some b → (us j).ownBlock ≠ some b

theorem LO.ss {w : World} {B : Nat} {v : Value} {Ls : List (List Int)} (h : LO w B v Ls) : SS w v Ls := by
  rcases h with ⟨rfl, rfl⟩ | ⟨g, cap, us, rfl, _, hg, hc, _⟩
  · exact .inl ⟨_, _, rfl, rfl⟩
  · exact .inr ⟨g, 0, cap, us, rfl, hg, fun i hi => ⟨by rw [Nat.zero_add]; exact (hc i hi).1, (hc i hi).2.1.sl⟩⟩

theorem LO.below {w w' : World} {B : Nat} {v : Value} {Ls : List (List Int)} (h : LO w B v Ls) (hb : Below w.heap.size w w') : LO w' B v Ls := by
  rcases h with h | ⟨g, cap, us, rfl, hB, hg, hc, hd⟩
  · exact .inl h
  · exact .inr ⟨g, cap, us, rfl, hB, Nat.lt_of_lt_of_le hg hb.size, fun i hi => ⟨(hb.cell (p := ⟨g, i, none⟩) hg).trans (hc i hi).1, (hc i hi).2.1.below hb, (hc i hi).2.2⟩, hd⟩

theorem TS.ss {w : World} {B : Nat} {v : Value} {Ts : List (List Int)} (h : TS w B v Ts) : SS w v Ts := by
  rcases h.form with ⟨rfl, rfl⟩ | ⟨g, cap, rfl, _, hg⟩
  · exact .inl ⟨_, _, rfl, rfl⟩
  · obtain ⟨cs, h1, h2, h3⟩ := h
    refine .inr ⟨g, 0, cap, fun i => cs.getD i (.bool false), rfl, hg, fun i hi => ?_⟩
    obtain ⟨u, a, b, _⟩ := h3 i hi
    have e : cs.getD i (.bool false) = u := by rw [List.getD_eq_getElem?_getD, a]; rfl
    show w.cell? ⟨g, 0 + i, none⟩ = some (cs.getD i (.bool false)) ∧ Sl w (cs.getD i (.bool false)) (elS Ts i)
    rw [e, Nat.zero_add]
    exact ⟨(World.ownsRow.cellAt h1 i (by omega)).trans a, b.sl⟩

/-- The marks that a list of lists gets. -/
def markLL (k : Int) (Ls : List (List Int)) : List (List Int) := (List.range Ls.length).map fun i => markL (k + (tot Ls i : Int)) (elS Ls i).length

theorem markLL_length (k : Int) (Ls : List (List Int)) : (markLL k Ls).length = Ls.length := by simp [markLL]

theorem markLL_at (k : Int) (Ls : List (List Int)) (i : Nat) (h : i < Ls.length) : elS (markLL k Ls) i = markL (k + (tot Ls i : Int)) (elS Ls i).length := by simp [elS, markLL, h]

/-- What a call that writes marks into v's lists leaves. -/
def MarkedLL (w w' : World) (B : Nat) (v : Value) (k : Int) (Ls : List (List Int)) : Prop := SS w' v (markLL k Ls) ∧ Below B w w' ∧ w'.heap.size = w.heap.size

set_option maxHeartbeats 800000 in
theorem markLO_nil (B : Nat) (k : Int) (w : World) :
    Calls Tryd.prog 19 #[.slice none 0 0, .int .i64 k] w fun e w' => e = .returned (.int .i64 k) ∧ MarkedLL w w' B (.slice none 0 0) k [] := by
  go_enter Tryd.func19, Tryd.ntmps19
  go_wp2
  go_loopw [1, 5] (fun kk i wr => i = .int .i64 0 ∧ kk = .int .i64 k ∧ wr = w) (fun _ _ _ => 0)
  case atStart => exact ⟨rfl, rfl, rfl⟩
  case round =>
    obtain ⟨rfl, rfl, rfl⟩ := hrel
    go_wp2
    go_ret
    exact ⟨rfl, .inl ⟨_, _, rfl, rfl⟩, Below.refl _ _, rfl⟩

set_option maxHeartbeats 1600000 in
theorem markLO_some (B g cap : Nat) (us : Nat → Value) (Ls : List (List Int)) (k : Int) (w : World) (hB : B ≤ g) (hg : g < w.heap.size)
    (hc : ∀ i, i < Ls.length → w.cell? ⟨g, i, none⟩ = some (us i) ∧ Own w B (us i) (elS Ls i) ∧ (us i).ownBlock ≠ some g)
    (hd : ∀ i j b, i ≠ j → i < Ls.length → j < Ls.length → (us i).ownBlock = some b → (us j).ownBlock ≠ some b)
    (hk0 : 0 ≤ k) (hk1 : k ≤ 1048576) (hl : Ls.length + tot Ls Ls.length ≤ 1048576) :
    Calls Tryd.prog 19 #[.slice (some ⟨g, 0, none⟩) Ls.length cap, .int .i64 k] w fun e w' => e = .returned (.int .i64 (k + (tot Ls Ls.length : Int))) ∧ MarkedLL w w' B (.slice (some ⟨g, 0, none⟩) Ls.length cap) k Ls := by
  have HL := Lib.hid hl; have HD := Lib.hid hd
  have hln : Ls.length ≤ 1048576 := by omega
  have HC0 : Hid (∀ i, i < Ls.length → w.cell? ⟨g, i, none⟩ = some (us i) ∧ Own w B (us i) (if i < 0 then markL (k + (tot Ls i : Int)) (elS Ls i).length else elS Ls i) ∧ (us i).ownBlock ≠ some g) := fun i hi => by
    rw [if_neg (by omega)]; exact hc i hi
  clear hl hd hc
  go_enter Tryd.func19, Tryd.ntmps19
  go_wp2
  go_loopw [1, 5] (fun kk i wr => ∃ j t : Nat, j ≤ Ls.length ∧ i = .int .i64 j ∧ kk = .int .i64 (k + (t : Int)) ∧ Hid (t = tot Ls j) ∧ t ≤ 1048576 ∧ Hid (Below B w wr) ∧ wr.heap.size = w.heap.size ∧ Hid (∀ i, i < Ls.length → wr.cell? ⟨g, i, none⟩ = some (us i) ∧ Own wr B (us i) (if i < j then markL (k + (tot Ls i : Int)) (elS Ls i).length else elS Ls i) ∧ (us i).ownBlock ≠ some g)) (fun _ i _ => Ls.length - (intOf i).toNat)
  case atStart => exact ⟨0, 0, Nat.zero_le _, rfl, by simp, rfl, by omega, Below.refl _ _, rfl, HC0⟩
  case round =>
    obtain ⟨j, t, hj, rfl, rfl, HT, ht, HR, hsz, HC⟩ := hrel
    by_cases hlt : (j : Int) < Ls.length
    · have hjl : j < Ls.length := by omega
      obtain ⟨hcell0, how, hng⟩ := HC.out j hjl
      rw [if_neg (by omega)] at how
      have hts : tot Ls (j + 1) = tot Ls j + (elS Ls j).length := rfl
      have hmo := tot_mono Ls (j + 1) Ls.length (by omega)
      have hllb := HL.out
      have htj := HT.out
      have hf := slForm how.sl
      have HUF := Lib.hid hf
      have hcell : wr.cell? ⟨g, j, none⟩ = some (.slice (slPtr (us j)) (elS Ls j).length (slCap (us j))) := by rw [← HUF.out]; exact hcell0
      have hcon := markInts_any (us j) B (elS Ls j) (k + (t : Int)) wr how (by omega) (by omega) (by omega)
      rw [hf] at hcon
      have HCON := Lib.hid hcon
      have hj0 : (0 : Int) ≤ j := by omega
      have HT2 : Hid (t + (elS Ls j).length = tot Ls (j + 1)) := by show _ = _; rw [hts, ← htj]
      have ht2 : t + (elS Ls j).length ≤ 1048576 := by omega
      have HNG := Lib.hid hng
      have HGE := Lib.hid how.ge
      clear hts hmo hllb htj hcon how hcell0 hf hng
      go_wp2_with fail
      refine HCON.out.mono ?_
      rintro e w1 ⟨rfl, hOm, hg1, hsz1⟩
      rw [← HUF.out] at hOm hg1
      have HR2 : Hid (Below B w w1) := HR.out.grown hg1 (by rw [← hsz] at hg; exact Nat.le_of_lt (Nat.lt_of_le_of_lt hB hg)) (fun b e => HGE.out b e)
      have HC2 : Hid (∀ i, i < Ls.length → w1.cell? ⟨g, i, none⟩ = some (us i) ∧ Own w1 B (us i) (if i < j + 1 then markL (k + (tot Ls i : Int)) (elS Ls i).length else elS Ls i) ∧ (us i).ownBlock ≠ some g) := fun i hi => by
        obtain ⟨a, b, c⟩ := HC.out i hi
        refine ⟨?_, ?_, c⟩
        · have e := hg1.block g (by omega) (fun e => HNG.out e.symm)
          unfold World.cell? at a ⊢
          simp only [e]
          exact a
        · by_cases e : i = j
          · subst e
            rw [if_pos (by omega), ← HT.out]; exact hOm
          · have e2 : (if i < j + 1 then markL (k + (tot Ls i : Int)) (elS Ls i).length else elS Ls i) = if i < j then markL (k + (tot Ls i : Int)) (elS Ls i).length else elS Ls i := by
              by_cases h : i < j
              · rw [if_pos h, if_pos (by omega)]
              · rw [if_neg h, if_neg (by omega)]
            rw [e2]
            refine b.kept hg1 ?_
            cases hq : (us i).ownBlock with
            | none => exact .inl rfl
            | some q => exact .inr fun e3 => HD.out i j q e hi hjl hq e3.symm
      have hsz2 : w1.heap.size = w.heap.size := hsz1.trans hsz
      clear hg1 hOm HR HCON hcell HC hsz1 hsz
      go_wp2_with fail
      go_roundw
      case rel => exact ⟨j + 1, t + (elS Ls j).length, by omega, by go_num, by go_num, HT2, ht2, HR2, hsz2, HC2⟩
      case measure => simp [intOf]; omega
    · obtain rfl : j = Ls.length := by omega
      have E := Lib.hid HT.out
      go_wp2
      go_ret
      refine ⟨ret_int (by rw [E.out]), .inr ⟨g, 0, cap, us, by rw [markLL_length], by omega, fun i hi => ?_⟩, HR.out, hsz⟩
      rw [markLL_length] at hi
      obtain ⟨a, b, _⟩ := HC.out i hi
      rw [if_pos hi] at b
      rw [Nat.zero_add, markLL_at k Ls i hi]
      exact ⟨a, b.sl⟩

theorem markLO_any (B : Nat) (v : Value) (Ls : List (List Int)) (k : Int) (w : World) (h : LO w B v Ls) (hk0 : 0 ≤ k) (hk1 : k ≤ 1048576) (hl : Ls.length + tot Ls Ls.length ≤ 1048576) :
    Calls Tryd.prog 19 #[v, .int .i64 k] w fun e w' => e = .returned (.int .i64 (k + (tot Ls Ls.length : Int))) ∧ MarkedLL w w' B v k Ls := by
  rcases h with ⟨rfl, rfl⟩ | ⟨g, cap, us, rfl, hB, hg, hc, hd⟩
  · have := markLO_nil B k w
    simpa [tot] using this
  · exact markLO_some B g cap us Ls k w hB hg hc hd hk0 hk1 hl

set_option maxHeartbeats 800000 in
theorem heldSS_nil (a : Option Addr) (c : Nat) (k : Int) (w : World) :
    Calls Tryd.prog 20 #[.slice a 0 c, .int .i64 k] w fun e w' => e = .returned (.int .i64 k) ∧ w = w' := by
  go_enter Tryd.func20, Tryd.ntmps20
  go_wp2
  go_loop [1, 5] (fun kk i => i = .int .i64 0 ∧ kk = .int .i64 k) (fun _ _ => 0)
  case atStart => exact ⟨rfl, rfl⟩
  case round =>
    obtain ⟨rfl, rfl⟩ := hrel
    go_wp2
    go_ret
    exact ⟨rfl, rfl⟩

set_option maxHeartbeats 1600000 in
theorem heldSS_some (b off cap n : Nat) (Ls : List (List Int)) (k : Int) (w : World) (hn : Ls.length = n) (hc : Rows w b off (markLL k Ls)) (hk0 : 0 ≤ k) (hk1 : k ≤ 1048576) (hl : Ls.length + tot Ls Ls.length ≤ 1048576) :
    Calls Tryd.prog 20 #[.slice (some ⟨b, off, none⟩) n cap, .int .i64 k] w fun e w' => e = .returned (.int .i64 (k + (tot Ls Ls.length : Int))) ∧ w = w' := by
  subst hn
  have HL := Lib.hid hl; have HC := Lib.hid hc
  have hln : Ls.length ≤ 1048576 := by omega
  clear hl hc
  go_enter Tryd.func20, Tryd.ntmps20
  go_wp2
  go_loop [1, 5] (fun kk i => ∃ j t : Nat, j ≤ Ls.length ∧ i = .int .i64 j ∧ kk = .int .i64 (k + (t : Int)) ∧ Hid (t = tot Ls j) ∧ t ≤ 1048576) (fun _ i => Ls.length - (intOf i).toNat)
  case atStart => exact ⟨0, 0, Nat.zero_le _, rfl, by simp, rfl, by omega⟩
  case round =>
    obtain ⟨j, t, hj, rfl, rfl, HT, ht⟩ := hrel
    by_cases hlt : (j : Int) < Ls.length
    · have hjl : j < Ls.length := by omega
      obtain ⟨p, c, hcell, hsl⟩ := HC.out j (by rw [markLL_length]; exact hjl)
      rw [markLL_at k Ls j hjl, markL_length] at hcell hsl
      have hts : tot Ls (j + 1) = tot Ls j + (elS Ls j).length := rfl
      have hmo := tot_mono Ls (j + 1) Ls.length (by omega)
      have hllb := HL.out
      have htj := HT.out
      rw [← htj] at hsl
      have HCON := Lib.hid (heldInts_any _ (elS Ls j).length (k + (t : Int)) w hsl (by omega) (by omega) (by omega))
      have hj0 : (0 : Int) ≤ j := by omega
      have HT2 : Hid (t + (elS Ls j).length = tot Ls (j + 1)) := by show _ = _; rw [hts, ← htj]
      have ht2 : t + (elS Ls j).length ≤ 1048576 := by omega
      have hnn : (0 : Int) ≤ k + (t : Int) + ((elS Ls j).length : Int) := by omega
      clear hts hmo hllb htj hsl
      go_wp2_with fail
      refine HCON.out.mono ?_
      rintro e w1 ⟨rfl, rfl⟩
      clear HCON hcell
      go_wp2_with fail
      go_round
      case rel => exact ⟨j + 1, t + (elS Ls j).length, by omega, by go_num, by go_num, HT2, ht2⟩
      case measure => simp [intOf]; omega
    · obtain rfl : j = Ls.length := by omega
      have E := Lib.hid HT.out
      go_wp2
      go_ret
      exact ⟨ret_int (by rw [E.out]), rfl⟩

theorem heldLL_any (v : Value) (Ls : List (List Int)) (k : Int) (w : World) (h : SS w v (markLL k Ls)) (hk0 : 0 ≤ k) (hk1 : k ≤ 1048576) (hl : Ls.length + tot Ls Ls.length ≤ 1048576) :
    Calls Tryd.prog 20 #[v, .int .i64 k] w fun e w' => e = .returned (.int .i64 (k + (tot Ls Ls.length : Int))) ∧ w = w' := by
  by_cases h0 : Ls.length = 0
  · obtain rfl := List.eq_nil_of_length_eq_zero h0
    rw [h.form]
    have := heldSS_nil (slPtr v) (slCap v) k w
    simpa [tot, markLL] using this
  · obtain ⟨b, off, cap, rfl, hb, hc⟩ := h.rows (by rw [markLL_length]; omega)
    exact heldSS_some b off cap _ Ls k w (markLL_length k Ls).symm hc hk0 hk1 hl

theorem TL.lo {w : World} {B : Nat} {v : Value} {Ts : List (List Int)} (h : TL w B v Ts) : LO w B v Ts := by
  obtain ⟨cs, hc, hd⟩ := h
  rcases hc.form with ⟨rfl, rfl⟩ | ⟨g, cap, rfl, hB, hg⟩
  · exact .inl ⟨rfl, rfl⟩
  · obtain ⟨h1, h2, h3⟩ := hc
    have hgd : ∀ i, i < Ts.length → cs[i]? = some (cs.getD i (.slice none 0 0)) := fun i hi => by
      rw [List.getD_eq_getElem?_getD, List.getElem?_eq_getElem (by omega)]; rfl
    refine .inr ⟨g, cap, fun i => cs.getD i (.slice none 0 0), rfl, hB, hg, fun i hi => ?_, fun i j b hij hi hj hb => hd i j _ _ b hij (hgd i hi) (hgd j hj) hb⟩
    obtain ⟨u, a, b, c, _⟩ := h3 i hi
    have e : cs.getD i (.slice none 0 0) = u := by have := hgd i hi; rw [a] at this; exact (Option.some.inj this).symm
    show w.cell? ⟨g, i, none⟩ = some (cs.getD i (.slice none 0 0)) ∧ Own w B (cs.getD i (.slice none 0 0)) _ ∧ (cs.getD i (.slice none 0 0)).ownBlock ≠ some g
    rw [e]
    refine ⟨(World.ownsRow.cellAt h1 i (by omega)).trans a, b, fun e2 => ?_⟩
    rcases c with c | c
    · rw [c] at e2; cases e2
    · exact c (by rw [e2]; rfl)

theorem tot_le (Ls : List (List Int)) (m : Nat) : ∀ k, (∀ i, i < k → (elS Ls i).length ≤ m) → tot Ls k ≤ m * k
  | 0, _ => Nat.le_refl _
  | k + 1, h => by
    have h1 := tot_le Ls m k (fun i hi => h i (by omega))
    have h2 := h k (by omega)
    show tot Ls k + (elS Ls k).length ≤ m * (k + 1)
    rw [Nat.mul_add]; omega
theorem ss_slice {w : World} {v : Value} {Ls : List (List Int)} (h : SS w v Ls) : ∃ a c, v = .slice a Ls.length c := ⟨_, _, h.form⟩
end Go.Proofs.YtbncfhmpkoaffaaDoor
