/-
  Lists of lists that a call gathers by append (a tied seat of graphs), and spec.l06Rows.
-/
import Derived.Test.YtlodaeoikkjbkaaDoorDr
import Derived.Test.YtlodaeoikkjbkaaDoorFr
import Derived.Deep.AppendLies
import Derived.Maps.AppendAt
namespace Go.Proofs.YtlodaeoikkjbkaaDoor
set_option maxRecDepth 100000
set_option maxRecDepth 100000
open Go.RowKit

/-- List i of a list of lists, the empty one behind its end. -/
def elS (Ls : List (List Int)) (i : Nat) : List Int := Ls.getD i []
/-- The slice v owns, from block B on, the cells cs; those are slices that own, from block B on, the lists of Ts, and none lies in v's own row; the empty list is nil. -/
def TSc (w : World) (B : Nat) (v : Value) (Ts : List (List Int)) (cs : List Value) : Prop := w.ownsRow B 22 1 v Ts.length cs ∧ cs.length = Ts.length ∧
  ∀ i, i < Ts.length → ∃ u, cs[i]? = some u ∧ Own w B u (elS Ts i) ∧ (u.ownBlock = none ∨ u.ownBlock ≠ v.ownBlock) ∧ (elS Ts i = [] → u = .slice none 0 0)
def TS (w : World) (B : Nat) (v : Value) (Ts : List (List Int)) : Prop := ∃ cs : List Value, TSc w B v Ts cs
theorem TS.nil (w : World) (B : Nat) : TS w B (.slice none 0 0) [] := ⟨[], World.ownsRow_nil w B _ 1, rfl, fun i h => by simp at h⟩
theorem TSc.below {w w' : World} {B : Nat} {v : Value} {Ts : List (List Int)} {cs : List Value} (h : TSc w B v Ts cs) (hb : Below w.heap.size w w') : TSc w' B v Ts cs := by
  obtain ⟨h1, h2, h3⟩ := h
  refine ⟨World.ownsRow.kept h1 (grown_of_below hb none) (by cases v.ownBlock <;> simp), h2, fun i hi => ?_⟩
  obtain ⟨u, a, b, c⟩ := h3 i hi
  exact ⟨u, a, b.below hb, c⟩
theorem TS.below {w w' : World} {B : Nat} {v : Value} {Ts : List (List Int)} (h : TS w B v Ts) (hb : Below w.heap.size w w') : TS w' B v Ts := by
  obtain ⟨cs, h⟩ := h; exact ⟨cs, h.below hb⟩
theorem TS.base {w : World} {B B' : Nat} {v : Value} {Ts : List (List Int)} (h : TS w B v Ts) (hb : B' ≤ B) : TS w B' v Ts := by
  obtain ⟨cs, h1, h2, h3⟩ := h
  refine ⟨cs, ⟨h1.1, h1.2.imp id fun ⟨g, cap, cur, e, hB, r⟩ => ⟨g, cap, cur, e, Nat.le_trans hb hB, r⟩⟩, h2, fun i hi => ?_⟩
  obtain ⟨u, a, b, c⟩ := h3 i hi
  exact ⟨u, a, b.base hb, c⟩
theorem TSc.form {w : World} {B : Nat} {v : Value} {Ts : List (List Int)} {cs : List Value} (h : TSc w B v Ts cs) : (v = .slice none 0 0 ∧ Ts = []) ∨ ∃ g cap, v = .slice (some ⟨g, 0, none⟩) Ts.length cap ∧ B ≤ g ∧ g < w.heap.size := by
  rcases h.1.2 with ⟨rfl, h0⟩ | ⟨g, cap, cur, rfl, hb, hg, _⟩
  · exact .inl ⟨rfl, List.eq_nil_of_length_eq_zero h0⟩
  · exact .inr ⟨g, cap, rfl, hb, (Array.getElem?_eq_some_iff.1 hg).1⟩
theorem TS.form {w : World} {B : Nat} {v : Value} {Ts : List (List Int)} (h : TS w B v Ts) : (v = .slice none 0 0 ∧ Ts = []) ∨ ∃ g cap, v = .slice (some ⟨g, 0, none⟩) Ts.length cap ∧ B ≤ g ∧ g < w.heap.size := by
  obtain ⟨cs, h⟩ := h; exact h.form
/-- One of its lists: where its cell lies, and what it is. -/
theorem TS.at {w : World} {B g cap : Nat} {Ts : List (List Int)} (h : TS w B (.slice (some ⟨g, 0, none⟩) Ts.length cap) Ts) {i : Nat} (hi : i < Ts.length) :
    ∃ u, w.cell? ⟨g, i, none⟩ = some u ∧ Own w B u (elS Ts i) ∧ (elS Ts i = [] → u = .slice none 0 0) := by
  obtain ⟨cs, h1, h2, h3⟩ := h
  obtain ⟨u, a, b, c, d⟩ := h3 i hi
  exact ⟨u, (World.ownsRow.cellAt h1 i (by omega)).trans a, b, d⟩
theorem elS_left (Ts Us : List (List Int)) (i : Nat) (h : i < Ts.length) : elS (Ts ++ Us) i = elS Ts i := by unfold elS; rw [List.getD_eq_getElem?_getD, List.getD_eq_getElem?_getD, List.getElem?_append_left h]
theorem elS_end (Ts : List (List Int)) (t : List Int) : elS (Ts ++ [t]) Ts.length = t := by simp [elS]
/-- One list more, appended. -/
theorem TSc.snoc {w w' : World} {B : Nat} {v v' u : Value} {Ts : List (List Int)} {t : List Int} {cs : List Value} (h : TSc w B v Ts cs) (hu : Own w B u t) (hne : u.ownBlock = none ∨ u.ownBlock ≠ v.ownBlock) (ht : t = [] → u = .slice none 0 0)
    (hown : w'.ownsRow B 22 1 v' (Ts.length + 1) (cs ++ [u])) (hg : w.grownBy w' v.ownBlock) (hloc : v'.ownBlock = v.ownBlock ∨ v'.ownBlock = some w.heap.size) : TS w' B v' (Ts ++ [t]) := by
  obtain ⟨h1, h2, h3⟩ := h
  have far : ∀ {x : Value} {L : List Int}, Own w B x L → (x.ownBlock = none ∨ x.ownBlock ≠ v.ownBlock) → (x.ownBlock = none ∨ x.ownBlock ≠ v'.ownBlock) := fun {x L} hx hn => by
    rcases hn with hn | hn
    · exact .inl hn
    · rcases hloc with e | e
      · exact .inr (by rw [e]; exact hn)
      · cases hb : x.ownBlock with
        | none => exact .inl rfl
        | some k => exact .inr (fun e2 => by rw [e] at e2; cases e2; have := hx.lt _ hb; omega)
  have keep : ∀ {x : Value} {L : List Int}, Own w B x L → (x.ownBlock = none ∨ x.ownBlock ≠ v.ownBlock) → Own w' B x L := fun {x L} hx hn => hx.kept hg hn
  refine ⟨cs ++ [u], by rw [List.length_append]; exact hown, by simp [h2], fun i hi => ?_⟩
  rw [List.length_append, List.length_singleton] at hi
  by_cases e : i < Ts.length
  · obtain ⟨x, a, b, c, d⟩ := h3 i e
    rw [elS_left _ _ _ e]
    exact ⟨x, by rw [List.getElem?_append_left (by omega)]; exact a, keep b c, far b c, d⟩
  · obtain rfl : i = Ts.length := by omega
    rw [elS_end]
    exact ⟨u, by rw [← h2]; simp, keep hu hne, far hu hne, ht⟩

/-- The first k rows of distances. -/
def dsLL (zs : List Int) (k : Nat) : List (List Int) := (List.range k).map (dsL zs)
theorem dsLL_length (zs : List Int) (k : Nat) : (dsLL zs k).length = k := by simp [dsLL]
theorem dsLL_succ (zs : List Int) (k : Nat) : dsLL zs (k + 1) = dsLL zs k ++ [dsL zs k] := by simp [dsLL, List.range_succ]
theorem dsLL_at {zs : List Int} {k i : Nat} (h : i < k) : elS (dsLL zs k) i = dsL zs i := by simp [elS, dsLL, h]

set_option maxHeartbeats 3200000 in
theorem rows6_some (b off cap : Nat) (zs : List Int) (w : World) (hb : b < w.heap.size) (hc : Cells w b off zs) (hg : isG zs.length zs = true) :
    Calls Tryd.prog 55 #[.agg #[.int .i64 zs.length, .slice (some ⟨b, off, none⟩) zs.length cap]] w fun e w' => (∃ u, e = .returned u ∧ TS w' w.heap.size u (dsLL zs zs.length)) ∧ Below w.heap.size w w' := by
  obtain ⟨p1, p2, -, -, -⟩ := isG_parts hg
  have hm62 : zs.length ≤ 62 := by omega
  obtain ⟨Wz, hWz⟩ : ∃ Wz, Wz = (w.alloc (.cells #[.int .i64 zs.length, .slice (some ⟨b, off, none⟩) zs.length cap] 28)).alloc (.cells #[] 22) := ⟨_, rfl⟩
  have D0 : Below w.heap.size w Wz := by rw [hWz]; exact ((Below.refl _ _).alloc (Nat.le_refl _) _).alloc (by simp) _
  have hsz : w.heap.size + 2 ≤ Wz.heap.size := by rw [hWz]; simp
  have HG0 : Hid (Wz.heap[w.heap.size]? = some (.cells #[.int .i64 zs.length, .slice (some ⟨b, off, none⟩) zs.length cap] 28 (0, 0))) := by show _ = _; rw [hWz]; exact heap_old_at (World.alloc_heap_new w _) _
  have HT0 : Hid (TS Wz (w.heap.size + 1) (.slice (some ⟨w.heap.size + 1, 0, none⟩) 0 0) (dsLL zs 0)) := by
    have := World.ownsRow_made (w.alloc (.cells #[.int .i64 zs.length, .slice (some ⟨b, off, none⟩) zs.length cap] 28)) #[] 0 (base := w.heap.size + 1) (e := 22) (size := 1) (by simp) (by decide) rfl
    rw [World.size_alloc, ← hWz] at this
    exact ⟨[], this, rfl, fun i h => by simp [dsLL] at h⟩
  obtain ⟨j0, hj, hz0, hz1, hz2⟩ := info_parts mkS_info
  have HJ := Lib.hid hj; have HJ0 := Lib.hid hz0; have HJ1 := Lib.hid hz1; have HJ2 := Lib.hid hz2
  have HCz := Lib.hid (hc.below D0 hb)
  have HD0 := Lib.hid D0
  have HG := Lib.hid hg
  clear hc hg D0 hj hz0 hz1 hz2
  go_enter Tryd.func55, Tryd.ntmps55
  go_wp2_with fail
  rw [← hWz]
  clear hWz
  go_loopw [3, 4] (fun u i wr => ∃ k : Nat, k ≤ zs.length ∧ i = .int .i64 k ∧ Hid (TS wr (w.heap.size + 1) u (dsLL zs k)) ∧ Below (w.heap.size + 1) Wz wr) (fun _ i _ => zs.length - (intOf i).toNat)
  case atStart => exact ⟨0, Nat.zero_le _, rfl, HT0, Below.refl _ _⟩
  case round =>
    obtain ⟨k, hk, rfl, HT, hE⟩ := hrel
    obtain ⟨b0, b1, -, -⟩ := two_cells ((hE.block w.heap.size (by omega)).trans HG0.out)
    by_cases hlt : (k : Int) < zs.length
    · have hkl : k < zs.length := by omega
      have hk0 : (0 : Int) ≤ k := by omega
      have hs := hE.size
      have HF := Lib.hid (from_some b off cap zs k wr (by omega) (HCz.out.below hE (by omega)) HG.out hkl)
      obtain ⟨cs, hT⟩ := HT.out
      have hdl := dsLL_length zs k
      have hne : dsL zs k ≠ [] := fun e => by have := congrArg List.length e; rw [dsL_length, List.length_nil] at this; omega
      have HNE := Lib.hid hne
      have HSU := Lib.hid (dsLL_succ zs k)
      have HTC := Lib.hid hT
      have HDL := Lib.hid hdl
      clear hT HT hne hdl
      go_wp2_with (first
        | (go_at_call 35; refine HF.out.mono ?_; rintro e w2 ⟨fu, rfl, hO2, hb2⟩; obtain ⟨fg, fc, rfl, hfg0, hfg1⟩ : ∃ fg fc, fu = .slice (some ⟨fg, 0, none⟩) zs.length fc ∧ wr.heap.size ≤ fg ∧ fg < w2.heap.size := (by
            rcases hO2.form with ⟨_, h0⟩ | ⟨fg, fc, h1, h2, h3⟩
            · exact absurd h0 HNE.out
            · rw [dsL_length] at h1; exact ⟨fg, fc, h1, h2, h3⟩); have HTA := Lib.hid ((HTC.out.below hb2).below ((Below.refl _ w2).alloc (Nat.le_refl _) (.cells #[.slice (some ⟨fg, 0, none⟩) zs.length fc] 22))); have HTB := Lib.hid (by have := HTA.out.1; rw [HDL.out] at this; exact this : (w2.alloc (.cells #[.slice (some ⟨fg, 0, none⟩) zs.length fc] 22)).ownsRow (w.heap.size + 1) 22 1 u3 k cs); have HO2 := Lib.hid hO2; have hE2 := hE.trans (hb2.mono (by omega)); have s2 := hE2.size; clear hO2 hb2)
        | (at_builtin; refine wpList_append_own_at _ rfl (.tmp 12) (.tmp 16) 67 rfl (w.heap.size + 1) 22 j0 (.slice none 0 0) 1 24 Tryd.underlying67 HJ.out HJ0.out HJ1.out HJ2.out rfl (by decide) _ _ _ rfl HTB.out ⟨w2.heap.size, 0, none⟩ 1 1 [.slice (some ⟨fg, 0, none⟩) zs.length fc] rfl rfl (cell_one_new _ _ _) (by simp [Value.oneCell']) (by unfold maxLen; omega) (by omega) (by simp; omega) ?_; intro l3 w3 hown3 hgr3 _ hloc; have HO3 := Lib.hid hown3; have HG3 := Lib.hid hgr3; have HL3 := Lib.hid hloc; clear hown3 hgr3 hloc))
      have HS3 : Hid (TS w3 (w.heap.size + 1) l3 (dsLL zs (k + 1))) := by
        show TS _ _ _ _
        rw [HSU.out]
        have hO := (HO2.out.base (show w.heap.size + 1 ≤ wr.heap.size by omega)).below ((Below.refl _ w2).alloc (Nat.le_refl _) (.cells #[.slice (some ⟨fg, 0, none⟩) zs.length fc] 22))
        refine HTA.out.snoc hO ?_ (fun e => absurd e HNE.out) (by rw [HDL.out]; exact HO3.out) HG3.out HL3.out
        refine .inr fun e => ?_
        have h1 : u3.ownBlock = some fg := e.symm
        have := (World.ownsRow.lt HTC.out.1 fg h1).2
        omega
      have hE5 : Below (w.heap.size + 1) Wz w3 := (hE2.alloc (by omega) (.cells #[.slice (some ⟨fg, 0, none⟩) zs.length fc] 22)).grown HG3.out (by simp; omega) (fun q e => (World.ownsRow.lt HTC.out.1 q e).1)
      clear HTA HTB HTC HO2 HO3 HG3 HL3 hE2 hE b0 b1
      go_wp2_with fail
      go_roundw
      case rel => exact ⟨k + 1, by omega, by go_num, HS3, hE5⟩
      case measure => simp [intOf]; omega
    · obtain rfl : k = zs.length := by omega
      obtain ⟨a, c, rfl⟩ : ∃ a c, u3 = .slice a zs.length c := by
        rcases HT.out.form with ⟨_, h0⟩ | ⟨g, cap, h1, _⟩
        · have := congrArg List.length h0; rw [dsLL_length, List.length_nil] at this; omega
        · rw [dsLL_length] at h1; exact ⟨_, _, h1⟩
      go_wp2_with fail
      go_ret
      exact ⟨⟨_, rfl, HT.out.base (by omega)⟩, HD0.out.trans (hE.mono (by omega))⟩
end Go.Proofs.YtlodaeoikkjbkaaDoor
