/-
  impl.NamedGraph, whatever name comes in. (gen: mk_ngi.py)
-/
import Derived.Test.YtonfcmngokmgpaaNg0
import Derived.Test.YtonfcmngokmgpaaNg2
import Derived.Test.YtonfcmngokmgpaaNg3
import Derived.Test.YtonfcmngokmgpaaJg
namespace Go.Proofs.Ytonfcmngokmgpaa
set_option maxRecDepth 100000
open Go.RowKit Go.Maps Go.WideMaps Go.WideElems

def ngK4 : List Int := rowsF 4 (adjS (whereS (fun _ _ => true) 4))
theorem ngK4_length : ngK4.length = 4 := rowsF_length _ _
def ngK5 : List Int := rowsF 5 (adjS (whereS (fun _ _ => true) 5))
theorem ngK5_length : ngK5.length = 5 := rowsF_length _ _
def ngK33 : List Int := rowsF 6 (adjS (whereS k33F 6))
theorem ngK33_length : ngK33.length = 6 := rowsF_length _ _
def ngCube : List Int := rowsF 8 (adjS (whereS cubeF 8))
theorem ngCube_length : ngCube.length = 8 := rowsF_length _ _
def ngCleb : List Int := rowsF 16 (adjS (whereS clebF 16))
theorem ngCleb_length : ngCleb.length = 16 := rowsF_length _ _
def ngPet : List Int := rowsF 10 (adjS (ringS 5 2 5))
theorem ngPet_length : ngPet.length = 10 := rowsF_length _ _
def ngIco : List Int := rowsF 12 (adjS (icoS 5))
theorem ngIco_length : ngIco.length = 12 := rowsF_length _ _
def ngHof : List Int := rowsF 50 (adjS (hofS 5))
theorem ngHof_length : ngHof.length = 50 := rowsF_length _ _

set_option maxHeartbeats 1600000 in
theorem implK4_named (w : World) :
    Calls Try.prog 5 #[.string ⟨#[107, 52]⟩] w fun e w' => GRes w.heap.size 4 ngK4 0 e w' ∧ Below w.heap.size w w' := by
  obtain ⟨W, hW⟩ : ∃ W, W = w.alloc (.cells #[.int .i64 0, .slice none 0 0] 24) := ⟨_, rfl⟩
  have D0 : Below w.heap.size w W := by rw [hW]; exact (Below.refl _ _).alloc (Nat.le_refl _) _
  have s0 : W.heap.size = w.heap.size + 1 := by rw [hW]; simp
  have HR0 : Hid (W.heap[w.heap.size]? = some (.cells #[.int .i64 0, .slice none 0 0] 24 (0, 0))) := by show _ = _; rw [hW]; exact World.alloc_heap_new w _
  have hcon : Calls Try.prog 10 #[.int .i64 4, .func (.func 11) #[] #[]] W fun e w' => GRet W.heap.size 4 ngK4 e w' ∧ Below W.heap.size W w' := w4_any W
  have HRG := Lib.hid hcon
  obtain ⟨P, hP⟩ : ∃ P, P = ngK4 := ⟨_, rfl⟩
  have HPL : Hid (P.length = 4) := by show _ = _; rw [hP]; exact ngK4_length
  rw [← hP] at HRG
  rw [← hP]
  clear hcon hP
  go_enter Try.func5, Try.ntmps5
  go_wp2_with fail
  rw [← hW]
  clear hW
  refine HRG.out.mono ?_
  rintro e w1 ⟨⟨r, rfl, hB, hr⟩, hb1⟩
  clear HRG
  have E1 := Lib.hid (D0.trans (hb1.mono (by omega)))
  have HR1 : Hid (w1.heap[w.heap.size]? = some (.cells #[.int .i64 0, .slice none 0 0] 24 (0, 0))) := (hb1.block _ (by omega)).trans HR0.out
  have HB := Lib.hid hB
  have hrw : w.heap.size < r := by omega
  obtain ⟨y0, y1, g0, g1⟩ := two_cells HR1.out
  clear hb1 hB D0
  go_wp2_with fail
  have hfin := two_set (a := .int .i64 4) (b := .slice (some ⟨r, 0, none⟩) 4 4) HR1.out
  refine bodyPost_ret (v := .tuple #[.agg #[.int .i64 4, .slice (some ⟨r, 0, none⟩) 4 4], .int .i64 0]) (results_cell2 (p := 2) (u := 3) (ty := 24) rfl _ _ w.heap.size 24 _ (0, 0) _ rfl hfin Try.underlying24 rfl (by exact info27)) rfl ⟨⟨_, rfl, ?_⟩, ?_⟩
  · have h := Own.of_blk ((HB.out.other (a := ⟨w.heap.size, 0, none⟩) (by simp; omega) (.int .i64 4)).other (a := ⟨w.heap.size, 1, none⟩) (by simp; omega) (.slice (some ⟨r, 0, none⟩) 4 4)) (B := w.heap.size) (by omega) (by rw [HPL.out]; unfold maxLen; omega)
    rw [HPL.out] at h
    exact h
  · exact (E1.out.setCell (p := ⟨w.heap.size, 0, none⟩) (by simp) _).setCell (p := ⟨w.heap.size, 1, none⟩) (by simp) _

set_option maxHeartbeats 1600000 in
theorem implK5_named (w : World) :
    Calls Try.prog 5 #[.string ⟨#[107, 53]⟩] w fun e w' => GRes w.heap.size 5 ngK5 0 e w' ∧ Below w.heap.size w w' := by
  obtain ⟨W, hW⟩ : ∃ W, W = w.alloc (.cells #[.int .i64 0, .slice none 0 0] 24) := ⟨_, rfl⟩
  have D0 : Below w.heap.size w W := by rw [hW]; exact (Below.refl _ _).alloc (Nat.le_refl _) _
  have s0 : W.heap.size = w.heap.size + 1 := by rw [hW]; simp
  have HR0 : Hid (W.heap[w.heap.size]? = some (.cells #[.int .i64 0, .slice none 0 0] 24 (0, 0))) := by show _ = _; rw [hW]; exact World.alloc_heap_new w _
  have hcon : Calls Try.prog 10 #[.int .i64 5, .func (.func 11) #[] #[]] W fun e w' => GRet W.heap.size 5 ngK5 e w' ∧ Below W.heap.size W w' := w5_any W
  have HRG := Lib.hid hcon
  obtain ⟨P, hP⟩ : ∃ P, P = ngK5 := ⟨_, rfl⟩
  have HPL : Hid (P.length = 5) := by show _ = _; rw [hP]; exact ngK5_length
  rw [← hP] at HRG
  rw [← hP]
  clear hcon hP
  go_enter Try.func5, Try.ntmps5
  go_wp2_with fail
  rw [← hW]
  clear hW
  refine HRG.out.mono ?_
  rintro e w1 ⟨⟨r, rfl, hB, hr⟩, hb1⟩
  clear HRG
  have E1 := Lib.hid (D0.trans (hb1.mono (by omega)))
  have HR1 : Hid (w1.heap[w.heap.size]? = some (.cells #[.int .i64 0, .slice none 0 0] 24 (0, 0))) := (hb1.block _ (by omega)).trans HR0.out
  have HB := Lib.hid hB
  have hrw : w.heap.size < r := by omega
  obtain ⟨y0, y1, g0, g1⟩ := two_cells HR1.out
  clear hb1 hB D0
  go_wp2_with fail
  have hfin := two_set (a := .int .i64 5) (b := .slice (some ⟨r, 0, none⟩) 5 5) HR1.out
  refine bodyPost_ret (v := .tuple #[.agg #[.int .i64 5, .slice (some ⟨r, 0, none⟩) 5 5], .int .i64 0]) (results_cell2 (p := 2) (u := 3) (ty := 24) rfl _ _ w.heap.size 24 _ (0, 0) _ rfl hfin Try.underlying24 rfl (by exact info27)) rfl ⟨⟨_, rfl, ?_⟩, ?_⟩
  · have h := Own.of_blk ((HB.out.other (a := ⟨w.heap.size, 0, none⟩) (by simp; omega) (.int .i64 5)).other (a := ⟨w.heap.size, 1, none⟩) (by simp; omega) (.slice (some ⟨r, 0, none⟩) 5 5)) (B := w.heap.size) (by omega) (by rw [HPL.out]; unfold maxLen; omega)
    rw [HPL.out] at h
    exact h
  · exact (E1.out.setCell (p := ⟨w.heap.size, 0, none⟩) (by simp) _).setCell (p := ⟨w.heap.size, 1, none⟩) (by simp) _

set_option maxHeartbeats 1600000 in
theorem implK33_named (w : World) :
    Calls Try.prog 5 #[.string ⟨#[107, 51, 51]⟩] w fun e w' => GRes w.heap.size 6 ngK33 0 e w' ∧ Below w.heap.size w w' := by
  obtain ⟨W, hW⟩ : ∃ W, W = w.alloc (.cells #[.int .i64 0, .slice none 0 0] 24) := ⟨_, rfl⟩
  have D0 : Below w.heap.size w W := by rw [hW]; exact (Below.refl _ _).alloc (Nat.le_refl _) _
  have s0 : W.heap.size = w.heap.size + 1 := by rw [hW]; simp
  have HR0 : Hid (W.heap[w.heap.size]? = some (.cells #[.int .i64 0, .slice none 0 0] 24 (0, 0))) := by show _ = _; rw [hW]; exact World.alloc_heap_new w _
  have hcon : Calls Try.prog 10 #[.int .i64 6, .func (.func 12) #[] #[]] W fun e w' => GRet W.heap.size 6 ngK33 e w' ∧ Below W.heap.size W w' := w33_any W
  have HRG := Lib.hid hcon
  obtain ⟨P, hP⟩ : ∃ P, P = ngK33 := ⟨_, rfl⟩
  have HPL : Hid (P.length = 6) := by show _ = _; rw [hP]; exact ngK33_length
  rw [← hP] at HRG
  rw [← hP]
  clear hcon hP
  go_enter Try.func5, Try.ntmps5
  go_wp2_with fail
  rw [← hW]
  clear hW
  refine HRG.out.mono ?_
  rintro e w1 ⟨⟨r, rfl, hB, hr⟩, hb1⟩
  clear HRG
  have E1 := Lib.hid (D0.trans (hb1.mono (by omega)))
  have HR1 : Hid (w1.heap[w.heap.size]? = some (.cells #[.int .i64 0, .slice none 0 0] 24 (0, 0))) := (hb1.block _ (by omega)).trans HR0.out
  have HB := Lib.hid hB
  have hrw : w.heap.size < r := by omega
  obtain ⟨y0, y1, g0, g1⟩ := two_cells HR1.out
  clear hb1 hB D0
  go_wp2_with fail
  have hfin := two_set (a := .int .i64 6) (b := .slice (some ⟨r, 0, none⟩) 6 6) HR1.out
  refine bodyPost_ret (v := .tuple #[.agg #[.int .i64 6, .slice (some ⟨r, 0, none⟩) 6 6], .int .i64 0]) (results_cell2 (p := 2) (u := 3) (ty := 24) rfl _ _ w.heap.size 24 _ (0, 0) _ rfl hfin Try.underlying24 rfl (by exact info27)) rfl ⟨⟨_, rfl, ?_⟩, ?_⟩
  · have h := Own.of_blk ((HB.out.other (a := ⟨w.heap.size, 0, none⟩) (by simp; omega) (.int .i64 6)).other (a := ⟨w.heap.size, 1, none⟩) (by simp; omega) (.slice (some ⟨r, 0, none⟩) 6 6)) (B := w.heap.size) (by omega) (by rw [HPL.out]; unfold maxLen; omega)
    rw [HPL.out] at h
    exact h
  · exact (E1.out.setCell (p := ⟨w.heap.size, 0, none⟩) (by simp) _).setCell (p := ⟨w.heap.size, 1, none⟩) (by simp) _

set_option maxHeartbeats 1600000 in
theorem implCube_named (w : World) :
    Calls Try.prog 5 #[.string ⟨#[99, 117, 98, 101]⟩] w fun e w' => GRes w.heap.size 8 ngCube 0 e w' ∧ Below w.heap.size w w' := by
  obtain ⟨W, hW⟩ : ∃ W, W = w.alloc (.cells #[.int .i64 0, .slice none 0 0] 24) := ⟨_, rfl⟩
  have D0 : Below w.heap.size w W := by rw [hW]; exact (Below.refl _ _).alloc (Nat.le_refl _) _
  have s0 : W.heap.size = w.heap.size + 1 := by rw [hW]; simp
  have HR0 : Hid (W.heap[w.heap.size]? = some (.cells #[.int .i64 0, .slice none 0 0] 24 (0, 0))) := by show _ = _; rw [hW]; exact World.alloc_heap_new w _
  have hcon : Calls Try.prog 10 #[.int .i64 8, .func (.func 13) #[] #[]] W fun e w' => GRet W.heap.size 8 ngCube e w' ∧ Below W.heap.size W w' := wcube_any W
  have HRG := Lib.hid hcon
  obtain ⟨P, hP⟩ : ∃ P, P = ngCube := ⟨_, rfl⟩
  have HPL : Hid (P.length = 8) := by show _ = _; rw [hP]; exact ngCube_length
  rw [← hP] at HRG
  rw [← hP]
  clear hcon hP
  go_enter Try.func5, Try.ntmps5
  go_wp2_with fail
  rw [← hW]
  clear hW
  refine HRG.out.mono ?_
  rintro e w1 ⟨⟨r, rfl, hB, hr⟩, hb1⟩
  clear HRG
  have E1 := Lib.hid (D0.trans (hb1.mono (by omega)))
  have HR1 : Hid (w1.heap[w.heap.size]? = some (.cells #[.int .i64 0, .slice none 0 0] 24 (0, 0))) := (hb1.block _ (by omega)).trans HR0.out
  have HB := Lib.hid hB
  have hrw : w.heap.size < r := by omega
  obtain ⟨y0, y1, g0, g1⟩ := two_cells HR1.out
  clear hb1 hB D0
  go_wp2_with fail
  have hfin := two_set (a := .int .i64 8) (b := .slice (some ⟨r, 0, none⟩) 8 8) HR1.out
  refine bodyPost_ret (v := .tuple #[.agg #[.int .i64 8, .slice (some ⟨r, 0, none⟩) 8 8], .int .i64 0]) (results_cell2 (p := 2) (u := 3) (ty := 24) rfl _ _ w.heap.size 24 _ (0, 0) _ rfl hfin Try.underlying24 rfl (by exact info27)) rfl ⟨⟨_, rfl, ?_⟩, ?_⟩
  · have h := Own.of_blk ((HB.out.other (a := ⟨w.heap.size, 0, none⟩) (by simp; omega) (.int .i64 8)).other (a := ⟨w.heap.size, 1, none⟩) (by simp; omega) (.slice (some ⟨r, 0, none⟩) 8 8)) (B := w.heap.size) (by omega) (by rw [HPL.out]; unfold maxLen; omega)
    rw [HPL.out] at h
    exact h
  · exact (E1.out.setCell (p := ⟨w.heap.size, 0, none⟩) (by simp) _).setCell (p := ⟨w.heap.size, 1, none⟩) (by simp) _

set_option maxHeartbeats 1600000 in
theorem implCleb_named (w : World) :
    Calls Try.prog 5 #[.string ⟨#[99, 108, 101, 98, 115, 99, 104]⟩] w fun e w' => GRes w.heap.size 16 ngCleb 0 e w' ∧ Below w.heap.size w w' := by
  obtain ⟨W, hW⟩ : ∃ W, W = w.alloc (.cells #[.int .i64 0, .slice none 0 0] 24) := ⟨_, rfl⟩
  have D0 : Below w.heap.size w W := by rw [hW]; exact (Below.refl _ _).alloc (Nat.le_refl _) _
  have s0 : W.heap.size = w.heap.size + 1 := by rw [hW]; simp
  have HR0 : Hid (W.heap[w.heap.size]? = some (.cells #[.int .i64 0, .slice none 0 0] 24 (0, 0))) := by show _ = _; rw [hW]; exact World.alloc_heap_new w _
  have hcon : Calls Try.prog 10 #[.int .i64 16, .func (.func 15) #[] #[]] W fun e w' => GRet W.heap.size 16 ngCleb e w' ∧ Below W.heap.size W w' := wcleb_any W
  have HRG := Lib.hid hcon
  obtain ⟨P, hP⟩ : ∃ P, P = ngCleb := ⟨_, rfl⟩
  have HPL : Hid (P.length = 16) := by show _ = _; rw [hP]; exact ngCleb_length
  rw [← hP] at HRG
  rw [← hP]
  clear hcon hP
  go_enter Try.func5, Try.ntmps5
  go_wp2_with fail
  rw [← hW]
  clear hW
  refine HRG.out.mono ?_
  rintro e w1 ⟨⟨r, rfl, hB, hr⟩, hb1⟩
  clear HRG
  have E1 := Lib.hid (D0.trans (hb1.mono (by omega)))
  have HR1 : Hid (w1.heap[w.heap.size]? = some (.cells #[.int .i64 0, .slice none 0 0] 24 (0, 0))) := (hb1.block _ (by omega)).trans HR0.out
  have HB := Lib.hid hB
  have hrw : w.heap.size < r := by omega
  obtain ⟨y0, y1, g0, g1⟩ := two_cells HR1.out
  clear hb1 hB D0
  go_wp2_with fail
  have hfin := two_set (a := .int .i64 16) (b := .slice (some ⟨r, 0, none⟩) 16 16) HR1.out
  refine bodyPost_ret (v := .tuple #[.agg #[.int .i64 16, .slice (some ⟨r, 0, none⟩) 16 16], .int .i64 0]) (results_cell2 (p := 2) (u := 3) (ty := 24) rfl _ _ w.heap.size 24 _ (0, 0) _ rfl hfin Try.underlying24 rfl (by exact info27)) rfl ⟨⟨_, rfl, ?_⟩, ?_⟩
  · have h := Own.of_blk ((HB.out.other (a := ⟨w.heap.size, 0, none⟩) (by simp; omega) (.int .i64 16)).other (a := ⟨w.heap.size, 1, none⟩) (by simp; omega) (.slice (some ⟨r, 0, none⟩) 16 16)) (B := w.heap.size) (by omega) (by rw [HPL.out]; unfold maxLen; omega)
    rw [HPL.out] at h
    exact h
  · exact (E1.out.setCell (p := ⟨w.heap.size, 0, none⟩) (by simp) _).setCell (p := ⟨w.heap.size, 1, none⟩) (by simp) _

set_option maxHeartbeats 1600000 in
theorem implPet_named (w : World) :
    Calls Try.prog 5 #[.string ⟨#[112, 101, 116, 101, 114, 115, 101, 110]⟩] w fun e w' => GRes w.heap.size 10 ngPet 0 e w' ∧ Below w.heap.size w w' := by
  obtain ⟨W, hW⟩ : ∃ W, W = w.alloc (.cells #[.int .i64 0, .slice none 0 0] 24) := ⟨_, rfl⟩
  have D0 : Below w.heap.size w W := by rw [hW]; exact (Below.refl _ _).alloc (Nat.le_refl _) _
  have s0 : W.heap.size = w.heap.size + 1 := by rw [hW]; simp
  have HR0 : Hid (W.heap[w.heap.size]? = some (.cells #[.int .i64 0, .slice none 0 0] 24 (0, 0))) := by show _ = _; rw [hW]; exact World.alloc_heap_new w _
  have hcon : Calls Try.prog 16 #[.int .i64 5, .int .i64 2] W fun e w' => GRet W.heap.size 10 ngPet e w' ∧ Below W.heap.size W w' := implRing_any 5 2 10 W (by omega) (by omega) (by omega) (by omega) rfl
  have HRG := Lib.hid hcon
  obtain ⟨P, hP⟩ : ∃ P, P = ngPet := ⟨_, rfl⟩
  have HPL : Hid (P.length = 10) := by show _ = _; rw [hP]; exact ngPet_length
  rw [← hP] at HRG
  rw [← hP]
  clear hcon hP
  go_enter Try.func5, Try.ntmps5
  go_wp2_with fail
  rw [← hW]
  clear hW
  refine HRG.out.mono ?_
  rintro e w1 ⟨⟨r, rfl, hB, hr⟩, hb1⟩
  clear HRG
  have E1 := Lib.hid (D0.trans (hb1.mono (by omega)))
  have HR1 : Hid (w1.heap[w.heap.size]? = some (.cells #[.int .i64 0, .slice none 0 0] 24 (0, 0))) := (hb1.block _ (by omega)).trans HR0.out
  have HB := Lib.hid hB
  have hrw : w.heap.size < r := by omega
  obtain ⟨y0, y1, g0, g1⟩ := two_cells HR1.out
  clear hb1 hB D0
  go_wp2_with fail
  have hfin := two_set (a := .int .i64 10) (b := .slice (some ⟨r, 0, none⟩) 10 10) HR1.out
  refine bodyPost_ret (v := .tuple #[.agg #[.int .i64 10, .slice (some ⟨r, 0, none⟩) 10 10], .int .i64 0]) (results_cell2 (p := 2) (u := 3) (ty := 24) rfl _ _ w.heap.size 24 _ (0, 0) _ rfl hfin Try.underlying24 rfl (by exact info27)) rfl ⟨⟨_, rfl, ?_⟩, ?_⟩
  · have h := Own.of_blk ((HB.out.other (a := ⟨w.heap.size, 0, none⟩) (by simp; omega) (.int .i64 10)).other (a := ⟨w.heap.size, 1, none⟩) (by simp; omega) (.slice (some ⟨r, 0, none⟩) 10 10)) (B := w.heap.size) (by omega) (by rw [HPL.out]; unfold maxLen; omega)
    rw [HPL.out] at h
    exact h
  · exact (E1.out.setCell (p := ⟨w.heap.size, 0, none⟩) (by simp) _).setCell (p := ⟨w.heap.size, 1, none⟩) (by simp) _

set_option maxHeartbeats 1600000 in
theorem implIco_named (w : World) :
    Calls Try.prog 5 #[.string ⟨#[105, 99, 111, 115, 97, 104, 101, 100, 114, 111, 110]⟩] w fun e w' => GRes w.heap.size 12 ngIco 0 e w' ∧ Below w.heap.size w w' := by
  obtain ⟨W, hW⟩ : ∃ W, W = w.alloc (.cells #[.int .i64 0, .slice none 0 0] 24) := ⟨_, rfl⟩
  have D0 : Below w.heap.size w W := by rw [hW]; exact (Below.refl _ _).alloc (Nat.le_refl _) _
  have s0 : W.heap.size = w.heap.size + 1 := by rw [hW]; simp
  have HR0 : Hid (W.heap[w.heap.size]? = some (.cells #[.int .i64 0, .slice none 0 0] 24 (0, 0))) := by show _ = _; rw [hW]; exact World.alloc_heap_new w _
  have hcon : Calls Try.prog 17 #[] W fun e w' => GRet W.heap.size 12 ngIco e w' ∧ Below W.heap.size W w' := implIco_any W
  have HRG := Lib.hid hcon
  obtain ⟨P, hP⟩ : ∃ P, P = ngIco := ⟨_, rfl⟩
  have HPL : Hid (P.length = 12) := by show _ = _; rw [hP]; exact ngIco_length
  rw [← hP] at HRG
  rw [← hP]
  clear hcon hP
  go_enter Try.func5, Try.ntmps5
  go_wp2_with fail
  rw [← hW]
  clear hW
  refine HRG.out.mono ?_
  rintro e w1 ⟨⟨r, rfl, hB, hr⟩, hb1⟩
  clear HRG
  have E1 := Lib.hid (D0.trans (hb1.mono (by omega)))
  have HR1 : Hid (w1.heap[w.heap.size]? = some (.cells #[.int .i64 0, .slice none 0 0] 24 (0, 0))) := (hb1.block _ (by omega)).trans HR0.out
  have HB := Lib.hid hB
  have hrw : w.heap.size < r := by omega
  obtain ⟨y0, y1, g0, g1⟩ := two_cells HR1.out
  clear hb1 hB D0
  go_wp2_with fail
  have hfin := two_set (a := .int .i64 12) (b := .slice (some ⟨r, 0, none⟩) 12 12) HR1.out
  refine bodyPost_ret (v := .tuple #[.agg #[.int .i64 12, .slice (some ⟨r, 0, none⟩) 12 12], .int .i64 0]) (results_cell2 (p := 2) (u := 3) (ty := 24) rfl _ _ w.heap.size 24 _ (0, 0) _ rfl hfin Try.underlying24 rfl (by exact info27)) rfl ⟨⟨_, rfl, ?_⟩, ?_⟩
  · have h := Own.of_blk ((HB.out.other (a := ⟨w.heap.size, 0, none⟩) (by simp; omega) (.int .i64 12)).other (a := ⟨w.heap.size, 1, none⟩) (by simp; omega) (.slice (some ⟨r, 0, none⟩) 12 12)) (B := w.heap.size) (by omega) (by rw [HPL.out]; unfold maxLen; omega)
    rw [HPL.out] at h
    exact h
  · exact (E1.out.setCell (p := ⟨w.heap.size, 0, none⟩) (by simp) _).setCell (p := ⟨w.heap.size, 1, none⟩) (by simp) _

set_option maxHeartbeats 1600000 in
theorem implHof_named (w : World) :
    Calls Try.prog 5 #[.string ⟨#[104, 111, 102, 102, 109, 97, 110, 115, 105, 110, 103, 108, 101, 116, 111, 110]⟩] w fun e w' => GRes w.heap.size 50 ngHof 0 e w' ∧ Below w.heap.size w w' := by
  obtain ⟨W, hW⟩ : ∃ W, W = w.alloc (.cells #[.int .i64 0, .slice none 0 0] 24) := ⟨_, rfl⟩
  have D0 : Below w.heap.size w W := by rw [hW]; exact (Below.refl _ _).alloc (Nat.le_refl _) _
  have s0 : W.heap.size = w.heap.size + 1 := by rw [hW]; simp
  have HR0 : Hid (W.heap[w.heap.size]? = some (.cells #[.int .i64 0, .slice none 0 0] 24 (0, 0))) := by show _ = _; rw [hW]; exact World.alloc_heap_new w _
  have hcon : Calls Try.prog 18 #[] W fun e w' => GRet W.heap.size 50 ngHof e w' ∧ Below W.heap.size W w' := implHof_any W
  have HRG := Lib.hid hcon
  obtain ⟨P, hP⟩ : ∃ P, P = ngHof := ⟨_, rfl⟩
  have HPL : Hid (P.length = 50) := by show _ = _; rw [hP]; exact ngHof_length
  rw [← hP] at HRG
  rw [← hP]
  clear hcon hP
  go_enter Try.func5, Try.ntmps5
  go_wp2_with fail
  rw [← hW]
  clear hW
  refine HRG.out.mono ?_
  rintro e w1 ⟨⟨r, rfl, hB, hr⟩, hb1⟩
  clear HRG
  have E1 := Lib.hid (D0.trans (hb1.mono (by omega)))
  have HR1 : Hid (w1.heap[w.heap.size]? = some (.cells #[.int .i64 0, .slice none 0 0] 24 (0, 0))) := (hb1.block _ (by omega)).trans HR0.out
  have HB := Lib.hid hB
  have hrw : w.heap.size < r := by omega
  obtain ⟨y0, y1, g0, g1⟩ := two_cells HR1.out
  clear hb1 hB D0
  go_wp2_with fail
  have hfin := two_set (a := .int .i64 50) (b := .slice (some ⟨r, 0, none⟩) 50 50) HR1.out
  refine bodyPost_ret (v := .tuple #[.agg #[.int .i64 50, .slice (some ⟨r, 0, none⟩) 50 50], .int .i64 0]) (results_cell2 (p := 2) (u := 3) (ty := 24) rfl _ _ w.heap.size 24 _ (0, 0) _ rfl hfin Try.underlying24 rfl (by exact info27)) rfl ⟨⟨_, rfl, ?_⟩, ?_⟩
  · have h := Own.of_blk ((HB.out.other (a := ⟨w.heap.size, 0, none⟩) (by simp; omega) (.int .i64 50)).other (a := ⟨w.heap.size, 1, none⟩) (by simp; omega) (.slice (some ⟨r, 0, none⟩) 50 50)) (B := w.heap.size) (by omega) (by rw [HPL.out]; unfold maxLen; omega)
    rw [HPL.out] at h
    exact h
  · exact (E1.out.setCell (p := ⟨w.heap.size, 0, none⟩) (by simp) _).setCell (p := ⟨w.heap.size, 1, none⟩) (by simp) _

theorem RV_inv {v x : Value} {d : DataW Value} {ps : List MemPlace} (h : RV v = some (d, ps)) (hd : d = .held x) : v = x := by
  subst hd
  unfold RV at h
  simp only [Option.some.injEq, Prod.mk.injEq, DataW.held.injEq] at h
  exact h.1
theorem zeroPlan (w : World) : (zeroValue 38).run Try.prog w = .ok (.agg #[.int .i64 0, .slice none 0 0]) w := by kernel_rfl
/-- What a name that is none of the eight comes to. -/
def NoCase (s : ByteArray) : Prop := (s.toList == [107, 52]) = false ∧ (s.toList == [107, 53]) = false ∧ (s.toList == [107, 51, 51]) = false ∧ (s.toList == [99, 117, 98, 101]) = false ∧ (s.toList == [99, 108, 101, 98, 115, 99, 104]) = false ∧ (s.toList == [112, 101, 116, 101, 114, 115, 101, 110]) = false ∧ (s.toList == [105, 99, 111, 115, 97, 104, 101, 100, 114, 111, 110]) = false ∧ (s.toList == [104, 111, 102, 102, 109, 97, 110, 115, 105, 110, 103, 108, 101, 116, 111, 110]) = false

set_option maxHeartbeats 3200000 in
theorem implPlan_named (s : ByteArray) (n : Nat) (js : List Int) (w : World) (hs : s.size ≤ maxLen) (hc : NoCase s) (ht : (s.data.toList, n, js) ∈ plansT) (h3 : 3 ≤ n) (hn : n ≤ 62) (h0 : 0 < js.length) (hjl : js.length ≤ 20) (hj : jumpsOk n js js.length = true) :
    Calls Try.prog 5 #[.string s] w fun e w' => GRes w.heap.size n (rowsF n (adjS (jumpS n js n))) 0 e w' ∧ Below w.heap.size w w' := by
  obtain ⟨n0, n1, n2, n3, n4, n5, n6, n7⟩ := hc
  obtain ⟨W, hW⟩ : ∃ W, W = w.alloc (.cells #[.int .i64 0, .slice none 0 0] 24) := ⟨_, rfl⟩
  have D0 : Below w.heap.size w W := by rw [hW]; exact (Below.refl _ _).alloc (Nat.le_refl _) _
  have s0 : W.heap.size = w.heap.size + 1 := by rw [hW]; simp
  have HR0 : Hid (W.heap[w.heap.size]? = some (.cells #[.int .i64 0, .slice none 0 0] 24 (0, 0))) := by show _ = _; rw [hW]; exact World.alloc_heap_new w _
  have hpc := plans_any W
  rw [s0] at hpc
  have HPC := Lib.hid hpc
  clear hpc
  have HKEY := Lib.hid (keyOf_string_mk (P := Try.prog) Try.underlying9 hs)
  have HJ := Lib.hid (fun (b : Nat) (V : World) (hb : Blk V b js) => implJumps_some n b 0 js.length js V h3 hn hb.lt (fun i hi => by rw [Nat.zero_add]; exact hb.cell hi) h0 hjl hj)
  have HT := Lib.hid ht
  obtain ⟨P, hP⟩ : ∃ P, P = rowsF n (adjS (jumpS n js n)) := ⟨_, rfl⟩
  have HPL : Hid (P.length = n) := by show _ = _; rw [hP]; exact rowsF_length _ _
  rw [← hP] at HJ
  rw [← hP]
  clear hP ht hj hs
  go_enter Try.func5, Try.ntmps5
  go_wp2_with fail
  rw [← hW]
  clear hW
  refine HPC.out.mono ?_
  rintro e w1 ⟨⟨rfl, D, hown, hall, -⟩, hb1⟩
  obtain ⟨hhas, b, hb, hB, hat⟩ := hall _ HT.out
  have HO := Lib.hid hown
  have HHAS := Lib.hid hhas
  have HAT := Lib.hid hat
  have HBB := Lib.hid hB
  have E0 := D0.trans (hb1.mono (by omega))
  have HR1 : Hid (w1.heap[w.heap.size]? = some (.cells #[.int .i64 0, .slice none 0 0] 24 (0, 0))) := (hb1.block _ (by omega)).trans HR0.out
  have l1 := hB.lt
  clear hown hhas hat hB hall hb1 D0 HPC HT HR0
  go_wp2_with (at_lookup; refine wpList_lookup_own_ok _ rfl _ _ 40 rfl 9 38 lawStr Try.underlying40 RV (zeroPlan _) (.held (.agg #[.int .i64 0, .slice none 0 0])) [] rfl (w.heap.size + 1) 7 D rfl HO.out _ (.string s.data.toList) rfl HKEY.out ?_; intro v ps hv; have hv2 : v = .agg #[.int .i64 n, .slice (some ⟨b, 0, none⟩) js.length js.length] := RV_inv hv (HAT.out _); clear hv; rw [HHAS.out]; subst hv2)
  obtain ⟨w2, h2w⟩ : ∃ w2, w2 = w1.alloc (.cells #[.int .i64 n, .slice (some ⟨b, 0, none⟩) js.length js.length] 38) := ⟨_, rfl⟩
  have hb2 : Below w1.heap.size w1 w2 := by rw [h2w]; exact (Below.refl _ _).alloc (Nat.le_refl _) _
  rw [← h2w]
  clear h2w
  refine (HJ.out b w2 (HBB.out.belowAll hb2)).mono ?_
  rintro e w3 ⟨⟨r, rfl, hB, hr⟩, hb3⟩
  have e2 := E0.size
  have e3 := hb2.size
  have E1 := Lib.hid ((E0.trans (hb2.mono (by omega))).trans (hb3.mono (by omega)))
  have HR3 : Hid (w3.heap[w.heap.size]? = some (.cells #[.int .i64 0, .slice none 0 0] 24 (0, 0))) := (hb3.block _ (by omega)).trans ((hb2.block _ (by omega)).trans HR1.out)
  have HB := Lib.hid hB
  have hrw : w.heap.size < r := by omega
  clear HR1
  have HR1 := HR3
  obtain ⟨y0, y1, g0, g1⟩ := two_cells HR1.out
  clear hb2 hb3 hB E0 HJ HO HHAS HAT HBB e2 e3 HR3
  go_wp2_with fail
  have hfin := two_set (a := .int .i64 n) (b := .slice (some ⟨r, 0, none⟩) n n) HR1.out
  refine bodyPost_ret (v := .tuple #[.agg #[.int .i64 n, .slice (some ⟨r, 0, none⟩) n n], .int .i64 0]) (results_cell2 (p := 2) (u := 3) (ty := 24) rfl _ _ w.heap.size 24 _ (0, 0) _ rfl hfin Try.underlying24 rfl (by exact info27)) rfl ⟨⟨_, rfl, ?_⟩, ?_⟩
  · have h := Own.of_blk ((HB.out.other (a := ⟨w.heap.size, 0, none⟩) (by simp; omega) (.int .i64 n)).other (a := ⟨w.heap.size, 1, none⟩) (by simp; omega) (.slice (some ⟨r, 0, none⟩) n n)) (B := w.heap.size) (by omega) (by rw [HPL.out]; unfold maxLen; omega)
    rw [HPL.out] at h
    exact h
  · exact (E1.out.setCell (p := ⟨w.heap.size, 0, none⟩) (by simp) _).setCell (p := ⟨w.heap.size, 1, none⟩) (by simp) _

set_option maxHeartbeats 3200000 in
theorem implNone_named (s : ByteArray) (w : World) (hs : s.size ≤ maxLen) (hc : NoCase s) (ht : s.data.toList ∉ plansT.map (fun t => t.1)) :
    Calls Try.prog 5 #[.string s] w fun e w' => GRes w.heap.size 0 [] 4 e w' ∧ Below w.heap.size w w' := by
  obtain ⟨n0, n1, n2, n3, n4, n5, n6, n7⟩ := hc
  obtain ⟨W, hW⟩ : ∃ W, W = w.alloc (.cells #[.int .i64 0, .slice none 0 0] 24) := ⟨_, rfl⟩
  have D0 : Below w.heap.size w W := by rw [hW]; exact (Below.refl _ _).alloc (Nat.le_refl _) _
  have s0 : W.heap.size = w.heap.size + 1 := by rw [hW]; simp
  have HR0 : Hid (W.heap[w.heap.size]? = some (.cells #[.int .i64 0, .slice none 0 0] 24 (0, 0))) := by show _ = _; rw [hW]; exact World.alloc_heap_new w _
  have hpc := plans_any W
  rw [s0] at hpc
  have HPC := Lib.hid hpc
  have HKEY := Lib.hid (keyOf_string_mk (P := Try.prog) Try.underlying9 hs)
  have HT := Lib.hid ht
  clear hpc ht hs
  go_enter Try.func5, Try.ntmps5
  go_wp2_with fail
  rw [← hW]
  clear hW
  refine HPC.out.mono ?_
  rintro e w1 ⟨⟨rfl, D, hown, -, hno⟩, hb1⟩
  have HHAS := Lib.hid (hno _ HT.out)
  have HO := Lib.hid hown
  have E0 := D0.trans (hb1.mono (by omega))
  have HR1 : Hid (w1.heap[w.heap.size]? = some (.cells #[.int .i64 0, .slice none 0 0] 24 (0, 0))) := (hb1.block _ (by omega)).trans HR0.out
  have hlw : w.heap.size < w1.heap.size := by have := hb1.size; omega
  obtain ⟨y0, y1, g0, g1⟩ := two_cells HR1.out
  have HR2 := Lib.hid (heap_old_at HR1.out (.cells #[.int .i64 0, .slice none 0 0] 38))
  obtain ⟨z0, z1, k0, k1⟩ := two_cells HR2.out
  clear hown hno hb1 D0 HPC HT HR0
  go_wp2_with (at_lookup; refine wpList_lookup_own_ok _ rfl _ _ 40 rfl 9 38 lawStr Try.underlying40 RV (zeroPlan _) (.held (.agg #[.int .i64 0, .slice none 0 0])) [] rfl (w.heap.size + 1) 7 D rfl HO.out _ (.string s.data.toList) rfl HKEY.out ?_; intro v ps hv; have hv2 : v = .agg #[.int .i64 0, .slice none 0 0] := RV_inv hv (atKey_of_not_has HHAS.out _); clear hv; rw [HHAS.out]; subst hv2)
  have hfin := heap_old_at (two_set (a := .int .i64 0) (b := .slice none 0 0) HR1.out) (.cells #[.int .i64 0, .slice none 0 0] 38)
  refine bodyPost_ret (v := .tuple #[.agg #[.int .i64 0, .slice none 0 0], .int .i64 4]) (results_cell2 (p := 2) (u := 3) (ty := 24) rfl _ _ w.heap.size 24 _ (0, 0) _ rfl hfin Try.underlying24 rfl (by exact info27)) rfl ⟨⟨_, rfl, Own.nil _ _⟩, ?_⟩
  exact ((E0.setCell (p := ⟨w.heap.size, 0, none⟩) (by simp) _).setCell (p := ⟨w.heap.size, 1, none⟩) (by simp) _).alloc (by simp; omega) _
end Go.Proofs.Ytonfcmngokmgpaa
