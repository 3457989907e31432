/-
  The closures of impl.wordOf. (A tied seat.)
-/
import Derived.Test.YtklgimikdnokcaaDoorGk
import Derived.Test.YtklgimikdnokcaaDoorGe
import Derived.Deep.RegionHeld3
namespace Go.Proofs.YtklgimikdnokcaaDoor
set_option maxRecDepth 100000
open Go.RowKit

/-- The product of a word, its last letter first, behind x. -/
def wordP (k p : Nat) (js : List Int) (x : Nat) : List Nat → Nat
  | [] => x
  | l :: ls => gMul k p (wordP k p js x ls) (el js l).toNat
theorem wordP_lt {k p : Nat} {js : List Int} {x : Nat} (h : gOk k p = true) (hx : x < gOrd k p) : ∀ ls, wordP k p js x ls < gOrd k p
  | [] => hx
  | _ :: _ => gMul_lt h

set_option maxHeartbeats 400000 in
theorem word1_any (x : Int) (w : World) : Calls Tryd.prog 61 #[.int .i64 x] w fun e w' => e = .returned (.int .i64 x) ∧ w = w' := by
  go_enter Tryd.func61, Tryd.ntmps61
  go_wp2
  go_ret
  exact ⟨rfl, rfl⟩

set_option maxHeartbeats 3200000 in
set_option maxRecDepth 100000 in
theorem word2_0_1 (p x y z gb bb sb lb b off len cap l : Nat) (w : World) (h : gOk 0 p = true) (hz : z < gOrd 0 p) (hy : y < gOrd 0 p) (hl : l < len)
    (hgb : gb < w.heap.size) (hbb : bb < w.heap.size) (hsb : sb < w.heap.size) (hlb : lb < w.heap.size) (hb : b < w.heap.size)
    (hS : w.cell? ⟨gb, 0, none⟩ = some (.iface 84 (.agg #[.int .i64 p])) ∧ w.cell? ⟨bb, 0, none⟩ = some (.func (.func 61) #[] #[]) ∧ w.cell? ⟨sb, 0, none⟩ = some (.slice (some ⟨b, off, none⟩) len cap) ∧ w.cell? ⟨lb, 0, none⟩ = some (.int .i64 l) ∧ w.cell? ⟨b, off + l, none⟩ = some (.int .i64 y))
    (hU : ∀ W : World, Below w.heap.size w W → Calls Tryd.prog 61 #[.int .i64 x] W fun e w' => e = .returned (.int .i64 z) ∧ Below W.heap.size W w') :
    Calls Tryd.prog 62 #[.int .i64 x, .pointer (some ⟨gb, 0, none⟩), .pointer (some ⟨bb, 0, none⟩), .pointer (some ⟨sb, 0, none⟩), .pointer (some ⟨lb, 0, none⟩)] w fun e w' => e = .returned (.int .i64 (gMul 0 p z y : Nat)) ∧ Below w.heap.size w w' := by
  have HP := Lib.hid (fun W => product_0 p z y W h hz hy)
  have HU := Lib.hid hU
  have HW : Hid (∀ W : World, Below w.heap.size w W → W.cell? ⟨gb, 0, none⟩ = some (.iface 84 (.agg #[.int .i64 p])) ∧ W.cell? ⟨bb, 0, none⟩ = some (.func (.func 61) #[] #[]) ∧ W.cell? ⟨sb, 0, none⟩ = some (.slice (some ⟨b, off, none⟩) len cap) ∧ W.cell? ⟨lb, 0, none⟩ = some (.int .i64 l) ∧ W.cell? ⟨b, off + l, none⟩ = some (.int .i64 y)) := fun W hW =>
    ⟨(hW.cell (p := ⟨gb, 0, none⟩) hgb).trans hS.1, (hW.cell (p := ⟨bb, 0, none⟩) hbb).trans hS.2.1, (hW.cell (p := ⟨sb, 0, none⟩) hsb).trans hS.2.2.1, (hW.cell (p := ⟨lb, 0, none⟩) hlb).trans hS.2.2.2.1, (hW.cell (p := ⟨b, off + l, none⟩) hb).trans hS.2.2.2.2⟩
  obtain ⟨a0, a1, a2, a3, a4⟩ := hS
  have hna : ∀ w : World, (nilAhead 214 84 (.agg #[.int .i64 p]) "loop.example/g01331/impl.product").run Tryd.prog w = .ok (some false) w := fun _ => by kernel_rfl
  have hl0 : (0 : Int) ≤ l := by omega
  have hl1 : (l : Int) < len := by omega
  clear h hz hy hU hgb hbb hsb hlb hb
  go_enter Tryd.func62, Tryd.ntmps62
  go_wp2_with fail
  go_region_held3 (fun w' => w'.cell? ⟨gb, 0, none⟩ = some (.iface 84 (.agg #[.int .i64 p])) ∧ w'.cell? ⟨bb, 0, none⟩ = some (.func (.func 61) #[] #[]) ∧ w'.cell? ⟨sb, 0, none⟩ = some (.slice (some ⟨b, off, none⟩) len cap) ∧ w'.cell? ⟨lb, 0, none⟩ = some (.int .i64 l) ∧ w'.cell? ⟨b, off + l, none⟩ = some (.int .i64 y))
    (go_keep)
    (first | (go_at_call 61; with_reducible refine (HU.out _ ((Below.refl _ _).drew)).mono ?_; rintro e q1 ⟨rfl, hq1⟩; have B1 : Below w.heap.size w q1 := ((Below.refl _ _).drew).trans (hq1.mono (by simp)); obtain ⟨a0, a1, a2, a3, a4⟩ := HW.out q1 B1; clear hq1) | (go_at_call 86; with_reducible refine (HP.out q1).mono ?_; rintro e q2 ⟨rfl, hq2⟩; have B2 : Below w.heap.size w q2 := B1.trans (hq2.mono B1.size); obtain ⟨a0, a1, a2, a3, a4⟩ := HW.out q2 B2; clear hq2))
  all_goals
    go_wp2_with fail
    go_ret
    exact ⟨rfl, B2⟩

set_option maxHeartbeats 3200000 in
set_option maxRecDepth 100000 in
theorem word2_0_2 (p x y z gb bb sb lb b off len cap l bb2 lb2 : Nat) (w : World) (h : gOk 0 p = true) (hz : z < gOrd 0 p) (hy : y < gOrd 0 p) (hl : l < len)
    (hgb : gb < w.heap.size) (hbb : bb < w.heap.size) (hsb : sb < w.heap.size) (hlb : lb < w.heap.size) (hb : b < w.heap.size)
    (hS : w.cell? ⟨gb, 0, none⟩ = some (.iface 84 (.agg #[.int .i64 p])) ∧ w.cell? ⟨bb, 0, none⟩ = some (.func (.func 62) #[] #[.pointer (some ⟨gb, 0, none⟩), .pointer (some ⟨bb2, 0, none⟩), .pointer (some ⟨sb, 0, none⟩), .pointer (some ⟨lb2, 0, none⟩)]) ∧ w.cell? ⟨sb, 0, none⟩ = some (.slice (some ⟨b, off, none⟩) len cap) ∧ w.cell? ⟨lb, 0, none⟩ = some (.int .i64 l) ∧ w.cell? ⟨b, off + l, none⟩ = some (.int .i64 y))
    (hU : ∀ W : World, Below w.heap.size w W → Calls Tryd.prog 62 #[.int .i64 x, .pointer (some ⟨gb, 0, none⟩), .pointer (some ⟨bb2, 0, none⟩), .pointer (some ⟨sb, 0, none⟩), .pointer (some ⟨lb2, 0, none⟩)] W fun e w' => e = .returned (.int .i64 z) ∧ Below W.heap.size W w') :
    Calls Tryd.prog 62 #[.int .i64 x, .pointer (some ⟨gb, 0, none⟩), .pointer (some ⟨bb, 0, none⟩), .pointer (some ⟨sb, 0, none⟩), .pointer (some ⟨lb, 0, none⟩)] w fun e w' => e = .returned (.int .i64 (gMul 0 p z y : Nat)) ∧ Below w.heap.size w w' := by
  have HP := Lib.hid (fun W => product_0 p z y W h hz hy)
  have HU := Lib.hid hU
  have HW : Hid (∀ W : World, Below w.heap.size w W → W.cell? ⟨gb, 0, none⟩ = some (.iface 84 (.agg #[.int .i64 p])) ∧ W.cell? ⟨bb, 0, none⟩ = some (.func (.func 62) #[] #[.pointer (some ⟨gb, 0, none⟩), .pointer (some ⟨bb2, 0, none⟩), .pointer (some ⟨sb, 0, none⟩), .pointer (some ⟨lb2, 0, none⟩)]) ∧ W.cell? ⟨sb, 0, none⟩ = some (.slice (some ⟨b, off, none⟩) len cap) ∧ W.cell? ⟨lb, 0, none⟩ = some (.int .i64 l) ∧ W.cell? ⟨b, off + l, none⟩ = some (.int .i64 y)) := fun W hW =>
    ⟨(hW.cell (p := ⟨gb, 0, none⟩) hgb).trans hS.1, (hW.cell (p := ⟨bb, 0, none⟩) hbb).trans hS.2.1, (hW.cell (p := ⟨sb, 0, none⟩) hsb).trans hS.2.2.1, (hW.cell (p := ⟨lb, 0, none⟩) hlb).trans hS.2.2.2.1, (hW.cell (p := ⟨b, off + l, none⟩) hb).trans hS.2.2.2.2⟩
  obtain ⟨a0, a1, a2, a3, a4⟩ := hS
  have hna : ∀ w : World, (nilAhead 214 84 (.agg #[.int .i64 p]) "loop.example/g01331/impl.product").run Tryd.prog w = .ok (some false) w := fun _ => by kernel_rfl
  have hl0 : (0 : Int) ≤ l := by omega
  have hl1 : (l : Int) < len := by omega
  clear h hz hy hU hgb hbb hsb hlb hb
  go_enter Tryd.func62, Tryd.ntmps62
  go_wp2_with fail
  go_region_held3 (fun w' => w'.cell? ⟨gb, 0, none⟩ = some (.iface 84 (.agg #[.int .i64 p])) ∧ w'.cell? ⟨bb, 0, none⟩ = some (.func (.func 62) #[] #[.pointer (some ⟨gb, 0, none⟩), .pointer (some ⟨bb2, 0, none⟩), .pointer (some ⟨sb, 0, none⟩), .pointer (some ⟨lb2, 0, none⟩)]) ∧ w'.cell? ⟨sb, 0, none⟩ = some (.slice (some ⟨b, off, none⟩) len cap) ∧ w'.cell? ⟨lb, 0, none⟩ = some (.int .i64 l) ∧ w'.cell? ⟨b, off + l, none⟩ = some (.int .i64 y))
    (go_keep)
    (first | (go_at_call 62; with_reducible refine (HU.out _ ((Below.refl _ _).drew)).mono ?_; rintro e q1 ⟨rfl, hq1⟩; have B1 : Below w.heap.size w q1 := ((Below.refl _ _).drew).trans (hq1.mono (by simp)); obtain ⟨a0, a1, a2, a3, a4⟩ := HW.out q1 B1; clear hq1) | (go_at_call 86; with_reducible refine (HP.out q1).mono ?_; rintro e q2 ⟨rfl, hq2⟩; have B2 : Below w.heap.size w q2 := B1.trans (hq2.mono B1.size); obtain ⟨a0, a1, a2, a3, a4⟩ := HW.out q2 B2; clear hq2))
  all_goals
    go_wp2_with fail
    go_ret
    exact ⟨rfl, B2⟩

set_option maxHeartbeats 3200000 in
set_option maxRecDepth 100000 in
theorem word2_1_1 (p x y z gb bb sb lb b off len cap l : Nat) (w : World) (h : gOk 1 p = true) (hz : z < gOrd 1 p) (hy : y < gOrd 1 p) (hl : l < len)
    (hgb : gb < w.heap.size) (hbb : bb < w.heap.size) (hsb : sb < w.heap.size) (hlb : lb < w.heap.size) (hb : b < w.heap.size)
    (hS : w.cell? ⟨gb, 0, none⟩ = some (.iface 85 (.agg #[.int .i64 p])) ∧ w.cell? ⟨bb, 0, none⟩ = some (.func (.func 61) #[] #[]) ∧ w.cell? ⟨sb, 0, none⟩ = some (.slice (some ⟨b, off, none⟩) len cap) ∧ w.cell? ⟨lb, 0, none⟩ = some (.int .i64 l) ∧ w.cell? ⟨b, off + l, none⟩ = some (.int .i64 y))
    (hU : ∀ W : World, Below w.heap.size w W → Calls Tryd.prog 61 #[.int .i64 x] W fun e w' => e = .returned (.int .i64 z) ∧ Below W.heap.size W w') :
    Calls Tryd.prog 62 #[.int .i64 x, .pointer (some ⟨gb, 0, none⟩), .pointer (some ⟨bb, 0, none⟩), .pointer (some ⟨sb, 0, none⟩), .pointer (some ⟨lb, 0, none⟩)] w fun e w' => e = .returned (.int .i64 (gMul 1 p z y : Nat)) ∧ Below w.heap.size w w' := by
  have HP := Lib.hid (fun W => product_1 p z y W h hz hy)
  have HU := Lib.hid hU
  have HW : Hid (∀ W : World, Below w.heap.size w W → W.cell? ⟨gb, 0, none⟩ = some (.iface 85 (.agg #[.int .i64 p])) ∧ W.cell? ⟨bb, 0, none⟩ = some (.func (.func 61) #[] #[]) ∧ W.cell? ⟨sb, 0, none⟩ = some (.slice (some ⟨b, off, none⟩) len cap) ∧ W.cell? ⟨lb, 0, none⟩ = some (.int .i64 l) ∧ W.cell? ⟨b, off + l, none⟩ = some (.int .i64 y)) := fun W hW =>
    ⟨(hW.cell (p := ⟨gb, 0, none⟩) hgb).trans hS.1, (hW.cell (p := ⟨bb, 0, none⟩) hbb).trans hS.2.1, (hW.cell (p := ⟨sb, 0, none⟩) hsb).trans hS.2.2.1, (hW.cell (p := ⟨lb, 0, none⟩) hlb).trans hS.2.2.2.1, (hW.cell (p := ⟨b, off + l, none⟩) hb).trans hS.2.2.2.2⟩
  obtain ⟨a0, a1, a2, a3, a4⟩ := hS
  have hna : ∀ w : World, (nilAhead 214 85 (.agg #[.int .i64 p]) "loop.example/g01331/impl.product").run Tryd.prog w = .ok (some false) w := fun _ => by kernel_rfl
  have hl0 : (0 : Int) ≤ l := by omega
  have hl1 : (l : Int) < len := by omega
  clear h hz hy hU hgb hbb hsb hlb hb
  go_enter Tryd.func62, Tryd.ntmps62
  go_wp2_with fail
  go_region_held3 (fun w' => w'.cell? ⟨gb, 0, none⟩ = some (.iface 85 (.agg #[.int .i64 p])) ∧ w'.cell? ⟨bb, 0, none⟩ = some (.func (.func 61) #[] #[]) ∧ w'.cell? ⟨sb, 0, none⟩ = some (.slice (some ⟨b, off, none⟩) len cap) ∧ w'.cell? ⟨lb, 0, none⟩ = some (.int .i64 l) ∧ w'.cell? ⟨b, off + l, none⟩ = some (.int .i64 y))
    (go_keep)
    (first | (go_at_call 61; with_reducible refine (HU.out _ ((Below.refl _ _).drew)).mono ?_; rintro e q1 ⟨rfl, hq1⟩; have B1 : Below w.heap.size w q1 := ((Below.refl _ _).drew).trans (hq1.mono (by simp)); obtain ⟨a0, a1, a2, a3, a4⟩ := HW.out q1 B1; clear hq1) | (go_at_call 89; with_reducible refine (HP.out q1).mono ?_; rintro e q2 ⟨rfl, hq2⟩; have B2 : Below w.heap.size w q2 := B1.trans (hq2.mono B1.size); obtain ⟨a0, a1, a2, a3, a4⟩ := HW.out q2 B2; clear hq2))
  all_goals
    go_wp2_with fail
    go_ret
    exact ⟨rfl, B2⟩

set_option maxHeartbeats 3200000 in
set_option maxRecDepth 100000 in
theorem word2_1_2 (p x y z gb bb sb lb b off len cap l bb2 lb2 : Nat) (w : World) (h : gOk 1 p = true) (hz : z < gOrd 1 p) (hy : y < gOrd 1 p) (hl : l < len)
    (hgb : gb < w.heap.size) (hbb : bb < w.heap.size) (hsb : sb < w.heap.size) (hlb : lb < w.heap.size) (hb : b < w.heap.size)
    (hS : w.cell? ⟨gb, 0, none⟩ = some (.iface 85 (.agg #[.int .i64 p])) ∧ w.cell? ⟨bb, 0, none⟩ = some (.func (.func 62) #[] #[.pointer (some ⟨gb, 0, none⟩), .pointer (some ⟨bb2, 0, none⟩), .pointer (some ⟨sb, 0, none⟩), .pointer (some ⟨lb2, 0, none⟩)]) ∧ w.cell? ⟨sb, 0, none⟩ = some (.slice (some ⟨b, off, none⟩) len cap) ∧ w.cell? ⟨lb, 0, none⟩ = some (.int .i64 l) ∧ w.cell? ⟨b, off + l, none⟩ = some (.int .i64 y))
    (hU : ∀ W : World, Below w.heap.size w W → Calls Tryd.prog 62 #[.int .i64 x, .pointer (some ⟨gb, 0, none⟩), .pointer (some ⟨bb2, 0, none⟩), .pointer (some ⟨sb, 0, none⟩), .pointer (some ⟨lb2, 0, none⟩)] W fun e w' => e = .returned (.int .i64 z) ∧ Below W.heap.size W w') :
    Calls Tryd.prog 62 #[.int .i64 x, .pointer (some ⟨gb, 0, none⟩), .pointer (some ⟨bb, 0, none⟩), .pointer (some ⟨sb, 0, none⟩), .pointer (some ⟨lb, 0, none⟩)] w fun e w' => e = .returned (.int .i64 (gMul 1 p z y : Nat)) ∧ Below w.heap.size w w' := by
  have HP := Lib.hid (fun W => product_1 p z y W h hz hy)
  have HU := Lib.hid hU
  have HW : Hid (∀ W : World, Below w.heap.size w W → W.cell? ⟨gb, 0, none⟩ = some (.iface 85 (.agg #[.int .i64 p])) ∧ W.cell? ⟨bb, 0, none⟩ = some (.func (.func 62) #[] #[.pointer (some ⟨gb, 0, none⟩), .pointer (some ⟨bb2, 0, none⟩), .pointer (some ⟨sb, 0, none⟩), .pointer (some ⟨lb2, 0, none⟩)]) ∧ W.cell? ⟨sb, 0, none⟩ = some (.slice (some ⟨b, off, none⟩) len cap) ∧ W.cell? ⟨lb, 0, none⟩ = some (.int .i64 l) ∧ W.cell? ⟨b, off + l, none⟩ = some (.int .i64 y)) := fun W hW =>
    ⟨(hW.cell (p := ⟨gb, 0, none⟩) hgb).trans hS.1, (hW.cell (p := ⟨bb, 0, none⟩) hbb).trans hS.2.1, (hW.cell (p := ⟨sb, 0, none⟩) hsb).trans hS.2.2.1, (hW.cell (p := ⟨lb, 0, none⟩) hlb).trans hS.2.2.2.1, (hW.cell (p := ⟨b, off + l, none⟩) hb).trans hS.2.2.2.2⟩
  obtain ⟨a0, a1, a2, a3, a4⟩ := hS
  have hna : ∀ w : World, (nilAhead 214 85 (.agg #[.int .i64 p]) "loop.example/g01331/impl.product").run Tryd.prog w = .ok (some false) w := fun _ => by kernel_rfl
  have hl0 : (0 : Int) ≤ l := by omega
  have hl1 : (l : Int) < len := by omega
  clear h hz hy hU hgb hbb hsb hlb hb
  go_enter Tryd.func62, Tryd.ntmps62
  go_wp2_with fail
  go_region_held3 (fun w' => w'.cell? ⟨gb, 0, none⟩ = some (.iface 85 (.agg #[.int .i64 p])) ∧ w'.cell? ⟨bb, 0, none⟩ = some (.func (.func 62) #[] #[.pointer (some ⟨gb, 0, none⟩), .pointer (some ⟨bb2, 0, none⟩), .pointer (some ⟨sb, 0, none⟩), .pointer (some ⟨lb2, 0, none⟩)]) ∧ w'.cell? ⟨sb, 0, none⟩ = some (.slice (some ⟨b, off, none⟩) len cap) ∧ w'.cell? ⟨lb, 0, none⟩ = some (.int .i64 l) ∧ w'.cell? ⟨b, off + l, none⟩ = some (.int .i64 y))
    (go_keep)
    (first | (go_at_call 62; with_reducible refine (HU.out _ ((Below.refl _ _).drew)).mono ?_; rintro e q1 ⟨rfl, hq1⟩; have B1 : Below w.heap.size w q1 := ((Below.refl _ _).drew).trans (hq1.mono (by simp)); obtain ⟨a0, a1, a2, a3, a4⟩ := HW.out q1 B1; clear hq1) | (go_at_call 89; with_reducible refine (HP.out q1).mono ?_; rintro e q2 ⟨rfl, hq2⟩; have B2 : Below w.heap.size w q2 := B1.trans (hq2.mono B1.size); obtain ⟨a0, a1, a2, a3, a4⟩ := HW.out q2 B2; clear hq2))
  all_goals
    go_wp2_with fail
    go_ret
    exact ⟨rfl, B2⟩

set_option maxHeartbeats 3200000 in
set_option maxRecDepth 100000 in
theorem word2_2_1 (p x y z gb bb sb lb b off len cap l : Nat) (w : World) (h : gOk 2 p = true) (hz : z < gOrd 2 p) (hy : y < gOrd 2 p) (hl : l < len)
    (hgb : gb < w.heap.size) (hbb : bb < w.heap.size) (hsb : sb < w.heap.size) (hlb : lb < w.heap.size) (hb : b < w.heap.size)
    (hS : w.cell? ⟨gb, 0, none⟩ = some (.iface 88 (.agg #[.int .i64 p])) ∧ w.cell? ⟨bb, 0, none⟩ = some (.func (.func 61) #[] #[]) ∧ w.cell? ⟨sb, 0, none⟩ = some (.slice (some ⟨b, off, none⟩) len cap) ∧ w.cell? ⟨lb, 0, none⟩ = some (.int .i64 l) ∧ w.cell? ⟨b, off + l, none⟩ = some (.int .i64 y))
    (hU : ∀ W : World, Below w.heap.size w W → Calls Tryd.prog 61 #[.int .i64 x] W fun e w' => e = .returned (.int .i64 z) ∧ Below W.heap.size W w') :
    Calls Tryd.prog 62 #[.int .i64 x, .pointer (some ⟨gb, 0, none⟩), .pointer (some ⟨bb, 0, none⟩), .pointer (some ⟨sb, 0, none⟩), .pointer (some ⟨lb, 0, none⟩)] w fun e w' => e = .returned (.int .i64 (gMul 2 p z y : Nat)) ∧ Below w.heap.size w w' := by
  have HP := Lib.hid (fun W => product_2 p z y W h hz hy)
  have HU := Lib.hid hU
  have HW : Hid (∀ W : World, Below w.heap.size w W → W.cell? ⟨gb, 0, none⟩ = some (.iface 88 (.agg #[.int .i64 p])) ∧ W.cell? ⟨bb, 0, none⟩ = some (.func (.func 61) #[] #[]) ∧ W.cell? ⟨sb, 0, none⟩ = some (.slice (some ⟨b, off, none⟩) len cap) ∧ W.cell? ⟨lb, 0, none⟩ = some (.int .i64 l) ∧ W.cell? ⟨b, off + l, none⟩ = some (.int .i64 y)) := fun W hW =>
    ⟨(hW.cell (p := ⟨gb, 0, none⟩) hgb).trans hS.1, (hW.cell (p := ⟨bb, 0, none⟩) hbb).trans hS.2.1, (hW.cell (p := ⟨sb, 0, none⟩) hsb).trans hS.2.2.1, (hW.cell (p := ⟨lb, 0, none⟩) hlb).trans hS.2.2.2.1, (hW.cell (p := ⟨b, off + l, none⟩) hb).trans hS.2.2.2.2⟩
  obtain ⟨a0, a1, a2, a3, a4⟩ := hS
  have hna : ∀ w : World, (nilAhead 214 88 (.agg #[.int .i64 p]) "loop.example/g01331/impl.product").run Tryd.prog w = .ok (some false) w := fun _ => by kernel_rfl
  have hl0 : (0 : Int) ≤ l := by omega
  have hl1 : (l : Int) < len := by omega
  clear h hz hy hU hgb hbb hsb hlb hb
  go_enter Tryd.func62, Tryd.ntmps62
  go_wp2_with fail
  go_region_held3 (fun w' => w'.cell? ⟨gb, 0, none⟩ = some (.iface 88 (.agg #[.int .i64 p])) ∧ w'.cell? ⟨bb, 0, none⟩ = some (.func (.func 61) #[] #[]) ∧ w'.cell? ⟨sb, 0, none⟩ = some (.slice (some ⟨b, off, none⟩) len cap) ∧ w'.cell? ⟨lb, 0, none⟩ = some (.int .i64 l) ∧ w'.cell? ⟨b, off + l, none⟩ = some (.int .i64 y))
    (go_keep)
    (first | (go_at_call 61; with_reducible refine (HU.out _ ((Below.refl _ _).drew)).mono ?_; rintro e q1 ⟨rfl, hq1⟩; have B1 : Below w.heap.size w q1 := ((Below.refl _ _).drew).trans (hq1.mono (by simp)); obtain ⟨a0, a1, a2, a3, a4⟩ := HW.out q1 B1; clear hq1) | (go_at_call 92; with_reducible refine (HP.out q1).mono ?_; rintro e q2 ⟨rfl, hq2⟩; have B2 : Below w.heap.size w q2 := B1.trans (hq2.mono B1.size); obtain ⟨a0, a1, a2, a3, a4⟩ := HW.out q2 B2; clear hq2))
  all_goals
    go_wp2_with fail
    go_ret
    exact ⟨rfl, B2⟩

set_option maxHeartbeats 3200000 in
set_option maxRecDepth 100000 in
theorem word2_2_2 (p x y z gb bb sb lb b off len cap l bb2 lb2 : Nat) (w : World) (h : gOk 2 p = true) (hz : z < gOrd 2 p) (hy : y < gOrd 2 p) (hl : l < len)
    (hgb : gb < w.heap.size) (hbb : bb < w.heap.size) (hsb : sb < w.heap.size) (hlb : lb < w.heap.size) (hb : b < w.heap.size)
    (hS : w.cell? ⟨gb, 0, none⟩ = some (.iface 88 (.agg #[.int .i64 p])) ∧ w.cell? ⟨bb, 0, none⟩ = some (.func (.func 62) #[] #[.pointer (some ⟨gb, 0, none⟩), .pointer (some ⟨bb2, 0, none⟩), .pointer (some ⟨sb, 0, none⟩), .pointer (some ⟨lb2, 0, none⟩)]) ∧ w.cell? ⟨sb, 0, none⟩ = some (.slice (some ⟨b, off, none⟩) len cap) ∧ w.cell? ⟨lb, 0, none⟩ = some (.int .i64 l) ∧ w.cell? ⟨b, off + l, none⟩ = some (.int .i64 y))
    (hU : ∀ W : World, Below w.heap.size w W → Calls Tryd.prog 62 #[.int .i64 x, .pointer (some ⟨gb, 0, none⟩), .pointer (some ⟨bb2, 0, none⟩), .pointer (some ⟨sb, 0, none⟩), .pointer (some ⟨lb2, 0, none⟩)] W fun e w' => e = .returned (.int .i64 z) ∧ Below W.heap.size W w') :
    Calls Tryd.prog 62 #[.int .i64 x, .pointer (some ⟨gb, 0, none⟩), .pointer (some ⟨bb, 0, none⟩), .pointer (some ⟨sb, 0, none⟩), .pointer (some ⟨lb, 0, none⟩)] w fun e w' => e = .returned (.int .i64 (gMul 2 p z y : Nat)) ∧ Below w.heap.size w w' := by
  have HP := Lib.hid (fun W => product_2 p z y W h hz hy)
  have HU := Lib.hid hU
  have HW : Hid (∀ W : World, Below w.heap.size w W → W.cell? ⟨gb, 0, none⟩ = some (.iface 88 (.agg #[.int .i64 p])) ∧ W.cell? ⟨bb, 0, none⟩ = some (.func (.func 62) #[] #[.pointer (some ⟨gb, 0, none⟩), .pointer (some ⟨bb2, 0, none⟩), .pointer (some ⟨sb, 0, none⟩), .pointer (some ⟨lb2, 0, none⟩)]) ∧ W.cell? ⟨sb, 0, none⟩ = some (.slice (some ⟨b, off, none⟩) len cap) ∧ W.cell? ⟨lb, 0, none⟩ = some (.int .i64 l) ∧ W.cell? ⟨b, off + l, none⟩ = some (.int .i64 y)) := fun W hW =>
    ⟨(hW.cell (p := ⟨gb, 0, none⟩) hgb).trans hS.1, (hW.cell (p := ⟨bb, 0, none⟩) hbb).trans hS.2.1, (hW.cell (p := ⟨sb, 0, none⟩) hsb).trans hS.2.2.1, (hW.cell (p := ⟨lb, 0, none⟩) hlb).trans hS.2.2.2.1, (hW.cell (p := ⟨b, off + l, none⟩) hb).trans hS.2.2.2.2⟩
  obtain ⟨a0, a1, a2, a3, a4⟩ := hS
  have hna : ∀ w : World, (nilAhead 214 88 (.agg #[.int .i64 p]) "loop.example/g01331/impl.product").run Tryd.prog w = .ok (some false) w := fun _ => by kernel_rfl
  have hl0 : (0 : Int) ≤ l := by omega
  have hl1 : (l : Int) < len := by omega
  clear h hz hy hU hgb hbb hsb hlb hb
  go_enter Tryd.func62, Tryd.ntmps62
  go_wp2_with fail
  go_region_held3 (fun w' => w'.cell? ⟨gb, 0, none⟩ = some (.iface 88 (.agg #[.int .i64 p])) ∧ w'.cell? ⟨bb, 0, none⟩ = some (.func (.func 62) #[] #[.pointer (some ⟨gb, 0, none⟩), .pointer (some ⟨bb2, 0, none⟩), .pointer (some ⟨sb, 0, none⟩), .pointer (some ⟨lb2, 0, none⟩)]) ∧ w'.cell? ⟨sb, 0, none⟩ = some (.slice (some ⟨b, off, none⟩) len cap) ∧ w'.cell? ⟨lb, 0, none⟩ = some (.int .i64 l) ∧ w'.cell? ⟨b, off + l, none⟩ = some (.int .i64 y))
    (go_keep)
    (first | (go_at_call 62; with_reducible refine (HU.out _ ((Below.refl _ _).drew)).mono ?_; rintro e q1 ⟨rfl, hq1⟩; have B1 : Below w.heap.size w q1 := ((Below.refl _ _).drew).trans (hq1.mono (by simp)); obtain ⟨a0, a1, a2, a3, a4⟩ := HW.out q1 B1; clear hq1) | (go_at_call 92; with_reducible refine (HP.out q1).mono ?_; rintro e q2 ⟨rfl, hq2⟩; have B2 : Below w.heap.size w q2 := B1.trans (hq2.mono B1.size); obtain ⟨a0, a1, a2, a3, a4⟩ := HW.out q2 B2; clear hq2))
  all_goals
    go_wp2_with fail
    go_ret
    exact ⟨rfl, B2⟩

end Go.Proofs.YtklgimikdnokcaaDoor
