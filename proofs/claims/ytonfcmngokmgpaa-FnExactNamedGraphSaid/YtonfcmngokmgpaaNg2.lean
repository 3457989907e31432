/-
  impl.jumpPlans: a map of strings to structs. (gen: mk_ng2.py)
-/
import Derived.Test.YtonfcmngokmgpaaNg1
import Derived.StringKeys
import Derived.Maps.OwnSet
namespace Go.Proofs.Ytonfcmngokmgpaa
set_option maxRecDepth 100000
open Go.RowKit Go.Maps Go.WideMaps Go.WideElems

theorem lawStr : Keyed Try.prog 9 := string_keyed Try.underlying9
/-- An element of the map is read as the value that it is. -/
def RV (v : Value) : Option (DataW Value × List MemPlace) := some (.held v, [])
def planV (n b : Nat) (js : List Int) : Value := .agg #[.int .i64 n, .slice (some ⟨b, 0, none⟩) js.length js.length]
/-- A plan: the name, the size, the jumps. -/
abbrev PlT := List UInt8 × Nat × List Int
def plansT : List PlT := [
  ([104, 101, 97, 119, 111, 111, 100], 14, [5, 9]),
  ([109, 111, 101, 98, 105, 117, 115, 107, 97, 110, 116, 111, 114], 16, [5, 11]),
  ([112, 97, 112, 112, 117, 115], 18, [5, 7, 11, 7, 11, 13]),
  ([100, 101, 115, 97, 114, 103, 117, 101, 115], 20, [5, 15, 9, 11]),
  ([100, 111, 100, 101, 99, 97, 104, 101, 100, 114, 111, 110], 20, [10, 7, 4, 16, 13, 10, 16, 7, 13, 4]),
  ([109, 99, 103, 101, 101], 24, [12, 7, 17]),
  ([116, 117, 116, 116, 101, 99, 111, 120, 101, 116, 101, 114], 30, [17, 21, 7, 23, 9, 13])]
def PlanAt (W : World) (M : Nat) (D : DataW Value) (t : PlT) : Prop := has D (.string t.1) = true ∧ ∃ b, M < b ∧ Blk W b t.2.2 ∧ ∀ z, D.atKey (.string t.1) z = .held (planV t.2.1 b t.2.2)
def Plans (W : World) (M : Nat) (D : DataW Value) (ts : List PlT) : Prop := W.ownsMap Try.prog 9 RV M ts.length D ∧ (∀ t, t ∈ ts → PlanAt W M D t) ∧ ∀ s : List UInt8, s ∉ ts.map (fun t => t.1) → has D (.string s) = false
theorem Plans.made (w : World) : Plans (w.alloc (.map #[] 0)) w.heap.size (.map []) [] := ⟨World.ownsMap_made _ _ _ _, fun t h => by simp at h, fun s _ => by simp [has]⟩
theorem Plans.put {W V w2 : World} {M b : Nat} {D : DataW Value} {ts : List PlT} (t : PlT) (h : Plans W M D ts) (hV : Below W.heap.size W V) (hb : Blk V b t.2.2) (hM : M < b) (ht : t.1 ∉ ts.map (fun t => t.1))
    (hown : w2.ownsMap Try.prog 9 RV M (ts.length + 1) (D.put (.string t.1) (.held (planV t.2.1 b t.2.2)))) (hg : V.grownBy w2 (some M)) : Plans w2 M (D.put (.string t.1) (.held (planV t.2.1 b t.2.2))) (ts ++ [t]) := by
  obtain ⟨h1, h2, h3⟩ := h
  refine ⟨by simpa using hown, ?_, ?_⟩
  · intro u hu
    rcases List.mem_append.1 hu with hu | hu
    · obtain ⟨g1, g, g2, g3, g4⟩ := h2 u hu
      have hne : (Lit.string u.1) ≠ .string t.1 := fun e => by
        injection e with e
        exact ht (List.mem_map.2 ⟨u, hu, e⟩)
      refine ⟨by rw [has_put_other hne]; exact g1, g, g2, ?_, fun z => by rw [atKey_put_other hne]; exact g4 z⟩
      exact (hg.block g (Nat.lt_of_lt_of_le g3.lt hV.size) (by simp; omega)).trans ((hV.block g g3.lt).trans g3)
    · simp at hu; subst hu
      refine ⟨has_put_same h1.isMap (show WideAt.IsKeyLit (.string u.1) from True.intro) _, b, hM, ?_, fun z => atKey_put_same h1.isMap (show WideAt.IsKeyLit (.string u.1) from True.intro) _ _⟩
      exact (hg.block b hb.lt (by simp; omega)).trans hb
  · intro s hs
    simp only [List.map_append, List.map_cons, List.map_nil, List.mem_append, List.mem_singleton, not_or] at hs
    rw [has_put_other (fun e => by injection e with e; exact hs.2 e)]
    exact h3 s hs.1
theorem Plans.lt {W : World} {M : Nat} {D : DataW Value} {ts : List PlT} (h : Plans W M D ts) : M < W.heap.size := h.1.lt
theorem plan_ints (zs : List Int) : (zs.map (Value.int .i64)).toArray = intsA zs := rfl

set_option maxHeartbeats 3200000 in
theorem plans_any (w : World) :
    Calls Try.prog 19 #[] w fun e w' => (e = .returned (.map (some w.heap.size)) ∧ ∃ D, Plans w' w.heap.size D plansT) ∧ Below w.heap.size w w' := by
  have hmm := @run_makeMap Try.prog
  have hP0 := Plans.made w
  have hE0 : Below w.heap.size w (w.alloc (.map #[] 0)) := (Below.refl _ _).alloc (Nat.le_refl _) _
  have hs0 : (w.alloc (.map #[] 0)).heap.size = w.heap.size + 1 := by simp
  have hE0V : Below (w.alloc (.map #[] 0)).heap.size (w.alloc (.map #[] 0)) ((w.alloc (.map #[] 0)).alloc (.cells #[.int .i64 5, .int .i64 9] 2)) := (Below.refl _ _).alloc (Nat.le_refl _) _
  have hB0 : Blk ((w.alloc (.map #[] 0)).alloc (.cells #[.int .i64 5, .int .i64 9] 2)) (w.heap.size + 1) [5, 9] := by rw [← hs0]; exact World.alloc_heap_new (w.alloc (.map #[] 0)) _
  have HQ0 := Lib.hid (fun w2 h1 h2 => Plans.put ([104, 101, 97, 119, 111, 111, 100], 14, [5, 9]) hP0 hE0V hB0 (by omega) (by decide) (w2 := w2) h1 h2)
  have hEV0 := hE0.trans (hE0V.mono (Nat.le_of_lt hP0.lt))
  have HE0 := Lib.hid (fun (w2 : World) (h : World.grownBy ((w.alloc (.map #[] 0)).alloc (.cells #[.int .i64 5, .int .i64 9] 2)) w2 (some w.heap.size)) => hEV0.grown h (hEV0.size) (fun j e => by cases e; exact Nat.le_refl _))
  have HO0 := Lib.hid (hP0.1.kept (grown_of_below hE0V none) (by simp))
  have HL0 : Hid (0 < maxLen) := by show _ < _; unfold maxLen; omega
  clear hE0V hB0 hP0 hE0 hEV0 hs0
  obtain ⟨W1, hrun0, hown1, hgr1⟩ := HO0.out.update (t := 40) (e := 38) (val := planV 14 (w.heap.size + 1) [5, 9]) (d := .held (planV 14 (w.heap.size + 1) [5, 9])) (ps := []) lawStr Try.underlying40 HL0.out (keyOf_string_mk Try.underlying9 (s := ⟨#[104, 101, 97, 119, 111, 111, 100]⟩) (Nat.le_of_ble_eq_true rfl)) rfl
  have hP1 := HQ0.out W1 hown1 hgr1
  have hE1 := HE0.out W1 hgr1
  clear hown1 hgr1 HQ0 HE0 HO0 HL0
  have hrun0 : (Instr.mapUpdate 40 (.map (some w.heap.size)) (.string ⟨#[104, 101, 97, 119, 111, 111, 100]⟩) (.agg #[.int .i64 14, .slice (some ⟨w.heap.size + 1, 0, none⟩) 2 2])).run Try.prog ((w.alloc (.map #[] 0)).alloc (.cells #[.int .i64 5, .int .i64 9] 2)) = .ok () W1 := hrun0
  have hE1V : Below W1.heap.size W1 (W1.alloc (.cells #[.int .i64 5, .int .i64 11] 2)) := (Below.refl _ _).alloc (Nat.le_refl _) _
  have hB1 : Blk (W1.alloc (.cells #[.int .i64 5, .int .i64 11] 2)) (W1.heap.size) [5, 11] := World.alloc_heap_new W1 _
  have HQ1 := Lib.hid (fun w2 h1 h2 => Plans.put ([109, 111, 101, 98, 105, 117, 115, 107, 97, 110, 116, 111, 114], 16, [5, 11]) hP1 hE1V hB1 (by exact hP1.lt) (by decide) (w2 := w2) h1 h2)
  have hEV1 := hE1.trans (hE1V.mono (Nat.le_of_lt hP1.lt))
  have HE1 := Lib.hid (fun (w2 : World) (h : World.grownBy (W1.alloc (.cells #[.int .i64 5, .int .i64 11] 2)) w2 (some w.heap.size)) => hEV1.grown h (hEV1.size) (fun j e => by cases e; exact Nat.le_refl _))
  have HO1 := Lib.hid (hP1.1.kept (grown_of_below hE1V none) (by simp))
  have HL1 : Hid (1 < maxLen) := by show _ < _; unfold maxLen; omega
  clear hE1V hB1 hP1 hE1 hEV1
  obtain ⟨W2, hrun1, hown2, hgr2⟩ := HO1.out.update (t := 40) (e := 38) (val := planV 16 (W1.heap.size) [5, 11]) (d := .held (planV 16 (W1.heap.size) [5, 11])) (ps := []) lawStr Try.underlying40 HL1.out (keyOf_string_mk Try.underlying9 (s := ⟨#[109, 111, 101, 98, 105, 117, 115, 107, 97, 110, 116, 111, 114]⟩) (Nat.le_of_ble_eq_true rfl)) rfl
  have hP2 := HQ1.out W2 hown2 hgr2
  have hE2 := HE1.out W2 hgr2
  clear hown2 hgr2 HQ1 HE1 HO1 HL1
  have hrun1 : (Instr.mapUpdate 40 (.map (some w.heap.size)) (.string ⟨#[109, 111, 101, 98, 105, 117, 115, 107, 97, 110, 116, 111, 114]⟩) (.agg #[.int .i64 16, .slice (some ⟨W1.heap.size, 0, none⟩) 2 2])).run Try.prog (W1.alloc (.cells #[.int .i64 5, .int .i64 11] 2)) = .ok () W2 := hrun1
  have hE2V : Below W2.heap.size W2 (W2.alloc (.cells #[.int .i64 5, .int .i64 7, .int .i64 11, .int .i64 7, .int .i64 11, .int .i64 13] 2)) := (Below.refl _ _).alloc (Nat.le_refl _) _
  have hB2 : Blk (W2.alloc (.cells #[.int .i64 5, .int .i64 7, .int .i64 11, .int .i64 7, .int .i64 11, .int .i64 13] 2)) (W2.heap.size) [5, 7, 11, 7, 11, 13] := World.alloc_heap_new W2 _
  have HQ2 := Lib.hid (fun w2 h1 h2 => Plans.put ([112, 97, 112, 112, 117, 115], 18, [5, 7, 11, 7, 11, 13]) hP2 hE2V hB2 (by exact hP2.lt) (by decide) (w2 := w2) h1 h2)
  have hEV2 := hE2.trans (hE2V.mono (Nat.le_of_lt hP2.lt))
  have HE2 := Lib.hid (fun (w2 : World) (h : World.grownBy (W2.alloc (.cells #[.int .i64 5, .int .i64 7, .int .i64 11, .int .i64 7, .int .i64 11, .int .i64 13] 2)) w2 (some w.heap.size)) => hEV2.grown h (hEV2.size) (fun j e => by cases e; exact Nat.le_refl _))
  have HO2 := Lib.hid (hP2.1.kept (grown_of_below hE2V none) (by simp))
  have HL2 : Hid (2 < maxLen) := by show _ < _; unfold maxLen; omega
  clear hE2V hB2 hP2 hE2 hEV2
  obtain ⟨W3, hrun2, hown3, hgr3⟩ := HO2.out.update (t := 40) (e := 38) (val := planV 18 (W2.heap.size) [5, 7, 11, 7, 11, 13]) (d := .held (planV 18 (W2.heap.size) [5, 7, 11, 7, 11, 13])) (ps := []) lawStr Try.underlying40 HL2.out (keyOf_string_mk Try.underlying9 (s := ⟨#[112, 97, 112, 112, 117, 115]⟩) (Nat.le_of_ble_eq_true rfl)) rfl
  have hP3 := HQ2.out W3 hown3 hgr3
  have hE3 := HE2.out W3 hgr3
  clear hown3 hgr3 HQ2 HE2 HO2 HL2
  have hrun2 : (Instr.mapUpdate 40 (.map (some w.heap.size)) (.string ⟨#[112, 97, 112, 112, 117, 115]⟩) (.agg #[.int .i64 18, .slice (some ⟨W2.heap.size, 0, none⟩) 6 6])).run Try.prog (W2.alloc (.cells #[.int .i64 5, .int .i64 7, .int .i64 11, .int .i64 7, .int .i64 11, .int .i64 13] 2)) = .ok () W3 := hrun2
  have hE3V : Below W3.heap.size W3 (W3.alloc (.cells #[.int .i64 5, .int .i64 15, .int .i64 9, .int .i64 11] 2)) := (Below.refl _ _).alloc (Nat.le_refl _) _
  have hB3 : Blk (W3.alloc (.cells #[.int .i64 5, .int .i64 15, .int .i64 9, .int .i64 11] 2)) (W3.heap.size) [5, 15, 9, 11] := World.alloc_heap_new W3 _
  have HQ3 := Lib.hid (fun w2 h1 h2 => Plans.put ([100, 101, 115, 97, 114, 103, 117, 101, 115], 20, [5, 15, 9, 11]) hP3 hE3V hB3 (by exact hP3.lt) (by decide) (w2 := w2) h1 h2)
  have hEV3 := hE3.trans (hE3V.mono (Nat.le_of_lt hP3.lt))
  have HE3 := Lib.hid (fun (w2 : World) (h : World.grownBy (W3.alloc (.cells #[.int .i64 5, .int .i64 15, .int .i64 9, .int .i64 11] 2)) w2 (some w.heap.size)) => hEV3.grown h (hEV3.size) (fun j e => by cases e; exact Nat.le_refl _))
  have HO3 := Lib.hid (hP3.1.kept (grown_of_below hE3V none) (by simp))
  have HL3 : Hid (3 < maxLen) := by show _ < _; unfold maxLen; omega
  clear hE3V hB3 hP3 hE3 hEV3
  obtain ⟨W4, hrun3, hown4, hgr4⟩ := HO3.out.update (t := 40) (e := 38) (val := planV 20 (W3.heap.size) [5, 15, 9, 11]) (d := .held (planV 20 (W3.heap.size) [5, 15, 9, 11])) (ps := []) lawStr Try.underlying40 HL3.out (keyOf_string_mk Try.underlying9 (s := ⟨#[100, 101, 115, 97, 114, 103, 117, 101, 115]⟩) (Nat.le_of_ble_eq_true rfl)) rfl
  have hP4 := HQ3.out W4 hown4 hgr4
  have hE4 := HE3.out W4 hgr4
  clear hown4 hgr4 HQ3 HE3 HO3 HL3
  have hrun3 : (Instr.mapUpdate 40 (.map (some w.heap.size)) (.string ⟨#[100, 101, 115, 97, 114, 103, 117, 101, 115]⟩) (.agg #[.int .i64 20, .slice (some ⟨W3.heap.size, 0, none⟩) 4 4])).run Try.prog (W3.alloc (.cells #[.int .i64 5, .int .i64 15, .int .i64 9, .int .i64 11] 2)) = .ok () W4 := hrun3
  have hE4V : Below W4.heap.size W4 (W4.alloc (.cells #[.int .i64 10, .int .i64 7, .int .i64 4, .int .i64 16, .int .i64 13, .int .i64 10, .int .i64 16, .int .i64 7, .int .i64 13, .int .i64 4] 2)) := (Below.refl _ _).alloc (Nat.le_refl _) _
  have hB4 : Blk (W4.alloc (.cells #[.int .i64 10, .int .i64 7, .int .i64 4, .int .i64 16, .int .i64 13, .int .i64 10, .int .i64 16, .int .i64 7, .int .i64 13, .int .i64 4] 2)) (W4.heap.size) [10, 7, 4, 16, 13, 10, 16, 7, 13, 4] := World.alloc_heap_new W4 _
  have HQ4 := Lib.hid (fun w2 h1 h2 => Plans.put ([100, 111, 100, 101, 99, 97, 104, 101, 100, 114, 111, 110], 20, [10, 7, 4, 16, 13, 10, 16, 7, 13, 4]) hP4 hE4V hB4 (by exact hP4.lt) (by decide) (w2 := w2) h1 h2)
  have hEV4 := hE4.trans (hE4V.mono (Nat.le_of_lt hP4.lt))
  have HE4 := Lib.hid (fun (w2 : World) (h : World.grownBy (W4.alloc (.cells #[.int .i64 10, .int .i64 7, .int .i64 4, .int .i64 16, .int .i64 13, .int .i64 10, .int .i64 16, .int .i64 7, .int .i64 13, .int .i64 4] 2)) w2 (some w.heap.size)) => hEV4.grown h (hEV4.size) (fun j e => by cases e; exact Nat.le_refl _))
  have HO4 := Lib.hid (hP4.1.kept (grown_of_below hE4V none) (by simp))
  have HL4 : Hid (4 < maxLen) := by show _ < _; unfold maxLen; omega
  clear hE4V hB4 hP4 hE4 hEV4
  obtain ⟨W5, hrun4, hown5, hgr5⟩ := HO4.out.update (t := 40) (e := 38) (val := planV 20 (W4.heap.size) [10, 7, 4, 16, 13, 10, 16, 7, 13, 4]) (d := .held (planV 20 (W4.heap.size) [10, 7, 4, 16, 13, 10, 16, 7, 13, 4])) (ps := []) lawStr Try.underlying40 HL4.out (keyOf_string_mk Try.underlying9 (s := ⟨#[100, 111, 100, 101, 99, 97, 104, 101, 100, 114, 111, 110]⟩) (Nat.le_of_ble_eq_true rfl)) rfl
  have hP5 := HQ4.out W5 hown5 hgr5
  have hE5 := HE4.out W5 hgr5
  clear hown5 hgr5 HQ4 HE4 HO4 HL4
  have hrun4 : (Instr.mapUpdate 40 (.map (some w.heap.size)) (.string ⟨#[100, 111, 100, 101, 99, 97, 104, 101, 100, 114, 111, 110]⟩) (.agg #[.int .i64 20, .slice (some ⟨W4.heap.size, 0, none⟩) 10 10])).run Try.prog (W4.alloc (.cells #[.int .i64 10, .int .i64 7, .int .i64 4, .int .i64 16, .int .i64 13, .int .i64 10, .int .i64 16, .int .i64 7, .int .i64 13, .int .i64 4] 2)) = .ok () W5 := hrun4
  have hE5V : Below W5.heap.size W5 (W5.alloc (.cells #[.int .i64 12, .int .i64 7, .int .i64 17] 2)) := (Below.refl _ _).alloc (Nat.le_refl _) _
  have hB5 : Blk (W5.alloc (.cells #[.int .i64 12, .int .i64 7, .int .i64 17] 2)) (W5.heap.size) [12, 7, 17] := World.alloc_heap_new W5 _
  have HQ5 := Lib.hid (fun w2 h1 h2 => Plans.put ([109, 99, 103, 101, 101], 24, [12, 7, 17]) hP5 hE5V hB5 (by exact hP5.lt) (by decide) (w2 := w2) h1 h2)
  have hEV5 := hE5.trans (hE5V.mono (Nat.le_of_lt hP5.lt))
  have HE5 := Lib.hid (fun (w2 : World) (h : World.grownBy (W5.alloc (.cells #[.int .i64 12, .int .i64 7, .int .i64 17] 2)) w2 (some w.heap.size)) => hEV5.grown h (hEV5.size) (fun j e => by cases e; exact Nat.le_refl _))
  have HO5 := Lib.hid (hP5.1.kept (grown_of_below hE5V none) (by simp))
  have HL5 : Hid (5 < maxLen) := by show _ < _; unfold maxLen; omega
  clear hE5V hB5 hP5 hE5 hEV5
  obtain ⟨W6, hrun5, hown6, hgr6⟩ := HO5.out.update (t := 40) (e := 38) (val := planV 24 (W5.heap.size) [12, 7, 17]) (d := .held (planV 24 (W5.heap.size) [12, 7, 17])) (ps := []) lawStr Try.underlying40 HL5.out (keyOf_string_mk Try.underlying9 (s := ⟨#[109, 99, 103, 101, 101]⟩) (Nat.le_of_ble_eq_true rfl)) rfl
  have hP6 := HQ5.out W6 hown6 hgr6
  have hE6 := HE5.out W6 hgr6
  clear hown6 hgr6 HQ5 HE5 HO5 HL5
  have hrun5 : (Instr.mapUpdate 40 (.map (some w.heap.size)) (.string ⟨#[109, 99, 103, 101, 101]⟩) (.agg #[.int .i64 24, .slice (some ⟨W5.heap.size, 0, none⟩) 3 3])).run Try.prog (W5.alloc (.cells #[.int .i64 12, .int .i64 7, .int .i64 17] 2)) = .ok () W6 := hrun5
  have hE6V : Below W6.heap.size W6 (W6.alloc (.cells #[.int .i64 17, .int .i64 21, .int .i64 7, .int .i64 23, .int .i64 9, .int .i64 13] 2)) := (Below.refl _ _).alloc (Nat.le_refl _) _
  have hB6 : Blk (W6.alloc (.cells #[.int .i64 17, .int .i64 21, .int .i64 7, .int .i64 23, .int .i64 9, .int .i64 13] 2)) (W6.heap.size) [17, 21, 7, 23, 9, 13] := World.alloc_heap_new W6 _
  have HQ6 := Lib.hid (fun w2 h1 h2 => Plans.put ([116, 117, 116, 116, 101, 99, 111, 120, 101, 116, 101, 114], 30, [17, 21, 7, 23, 9, 13]) hP6 hE6V hB6 (by exact hP6.lt) (by decide) (w2 := w2) h1 h2)
  have hEV6 := hE6.trans (hE6V.mono (Nat.le_of_lt hP6.lt))
  have HE6 := Lib.hid (fun (w2 : World) (h : World.grownBy (W6.alloc (.cells #[.int .i64 17, .int .i64 21, .int .i64 7, .int .i64 23, .int .i64 9, .int .i64 13] 2)) w2 (some w.heap.size)) => hEV6.grown h (hEV6.size) (fun j e => by cases e; exact Nat.le_refl _))
  have HO6 := Lib.hid (hP6.1.kept (grown_of_below hE6V none) (by simp))
  have HL6 : Hid (6 < maxLen) := by show _ < _; unfold maxLen; omega
  clear hE6V hB6 hP6 hE6 hEV6
  obtain ⟨W7, hrun6, hown7, hgr7⟩ := HO6.out.update (t := 40) (e := 38) (val := planV 30 (W6.heap.size) [17, 21, 7, 23, 9, 13]) (d := .held (planV 30 (W6.heap.size) [17, 21, 7, 23, 9, 13])) (ps := []) lawStr Try.underlying40 HL6.out (keyOf_string_mk Try.underlying9 (s := ⟨#[116, 117, 116, 116, 101, 99, 111, 120, 101, 116, 101, 114]⟩) (Nat.le_of_ble_eq_true rfl)) rfl
  have hP7 := HQ6.out W7 hown7 hgr7
  have hE7 := HE6.out W7 hgr7
  clear hown7 hgr7 HQ6 HE6 HO6 HL6
  have hrun6 : (Instr.mapUpdate 40 (.map (some w.heap.size)) (.string ⟨#[116, 117, 116, 116, 101, 99, 111, 120, 101, 116, 101, 114]⟩) (.agg #[.int .i64 30, .slice (some ⟨W6.heap.size, 0, none⟩) 6 6])).run Try.prog (W6.alloc (.cells #[.int .i64 17, .int .i64 21, .int .i64 7, .int .i64 23, .int .i64 9, .int .i64 13] 2)) = .ok () W7 := hrun6
  have HP7 := Lib.hid hP7
  have HE7 := Lib.hid hE7
  clear hP7 hE7
  go_enter Try.func19, Try.ntmps19
  go_wp2_with fail
  go_ret
  exact ⟨⟨rfl, _, HP7.out⟩, HE7.out⟩
end Go.Proofs.Ytonfcmngokmgpaa
