/-
  impl.productsWith. (A plain seat.)
-/
import Derived.Test.YtklgimikdnokcaaDoorCm
namespace Go.Proofs.YtklgimikdnokcaaDoor
set_option maxRecDepth 100000
open Go.RowKit

set_option maxHeartbeats 3200000 in
set_option maxRecDepth 100000 in
theorem productsWith_0 (p x cap : Nat) (a : Option Addr) (js : List Int) (w : World) (h : gOk 0 p = true) (hx : x < gOrd 0 p) (hj : elOk (gOrd 0 p) js js.length = true) (hc : js.length = 0 ∨ ∃ b off, a = some ⟨b, off, none⟩ ∧ b < w.heap.size ∧ Cells w b off js) (hl : js.length ≤ 9223372036854775807) :
    Calls Tryd.prog 54 #[gIf 0 p, .int .i64 x, .slice a js.length cap] w fun e w' => e = .returned (.int .i64 ((bitsN (proF 0 p x js) (gOrd 0 p) : Nat) : Int)) ∧ Below w.heap.size w w' := by
  have HC := Lib.hid hc
  have HJ := Lib.hid hj
  have HP := Lib.hid (fun y W (hy : y < gOrd 0 p) => product_0 p x y W h hx hy)
  have HQ := Lib.hid (fun y W (hy : y < gOrd 0 p) => quotient_0 p x y W h hx hy)
  have HM := Lib.hid (fun t => @rowM_or 0 p x js t h)
  have HQO := Lib.hid (fun t => @rowQ_or 0 p x js t h hx)
  have HBM := Lib.hid (fun t => @rowM_bd 0 p x js t h)
  have HBQ := Lib.hid (fun t => @rowQ_bd 0 p x js t h)
  have HPL := Lib.hid (fun y => @gMul_lt 0 p x y h)
  have HQL := Lib.hid (fun y => @gQuo_lt 0 p x y h hx)
  have ho := gOrd_le h
  have HF := Lib.hid (rowQ_all 0 p x js)
  have HZ := Lib.hid (rowQ_zero 0 p x js)
  rw [← HF.out]
  have i0 : ∀ w : World, (Instr.index 91 (.agg #[.func (.methodOf 48 "loop.example/g01331/impl.product") #[] #[], .func (.methodOf 48 "loop.example/g01331/impl.quotient") #[] #[]]) (.int .i64 0)).run Tryd.prog w = .ok (.func (.methodOf 48 "loop.example/g01331/impl.product") #[] #[]) w := fun _ => by kernel_rfl
  have i1 : ∀ w : World, (Instr.index 91 (.agg #[.func (.methodOf 48 "loop.example/g01331/impl.product") #[] #[], .func (.methodOf 48 "loop.example/g01331/impl.quotient") #[] #[]]) (.int .i64 1)).run Tryd.prog w = .ok (.func (.methodOf 48 "loop.example/g01331/impl.quotient") #[] #[]) w := fun _ => by kernel_rfl
  clear hc hj h hx
  unfold gIf
  go_enter Tryd.func54, Tryd.ntmps54
  go_wp2_with fail
  go_loopw [7, 15] (fun r i wr => Below w.heap.size w wr ∧ ((i = .int .i64 0 ∧ r = .int .i64 (rowM 0 p x js 0)) ∨ (i = .int .i64 1 ∧ r = .int .i64 (rowQ 0 p x js 0)) ∨ (i = .int .i64 2 ∧ r = .int .i64 (rowQ 0 p x js js.length)))) (fun _ i _ => 2 - (intOf i).toNat)
  case atStart => exact ⟨Below.refl _ _, .inl ⟨rfl, by rw [rowM_zero]⟩⟩
  case round =>
    obtain ⟨hE, hcas⟩ := hrel
    obtain ⟨wo, rfl⟩ : ∃ wo : World, wo = wr := ⟨_, rfl⟩
    rcases hcas with ⟨rfl, rfl⟩ | ⟨rfl, rfl⟩ | ⟨rfl, rfl⟩
    · go_wp2_with fail
      go_loopw [7, 20] (fun r i wr => Below w.heap.size w wr ∧ ∃ t : Nat, t ≤ js.length ∧ i = .int .i64 t ∧ r = .int .i64 (rowM 0 p x js t)) (fun _ i _ => js.length - (intOf i).toNat)
      case atStart => exact ⟨hE, 0, Nat.zero_le _, rfl, rfl⟩
      case round =>
        obtain ⟨hE2, t, ht, rfl, rfl⟩ := hrel
        by_cases hlt : (t : Int) < js.length
        · have htl : t < js.length := by omega
          obtain ⟨b, off, rfl, hb, hc⟩ : ∃ b off, a = some ⟨b, off, none⟩ ∧ b < w.heap.size ∧ Cells w b off js := by rcases HC.out with h | h <;> first | omega | exact h
          have hz : wr.cell? ⟨b, off + t, none⟩ = some (.int .i64 (el js t)) := (hE2.cell (p := ⟨b, off + t, none⟩) hb).trans (hc t htl)
          have he := elOk_at HJ.out htl
          have HO := Lib.hid (HM.out t)
          have hbd := HBM.out t
          have HN := Lib.hid (HBM.out (t + 1))
          obtain ⟨y, hy⟩ := Int.eq_ofNat_of_zero_le he.1
          rw [hy] at hz he
          rw [hy, Int.toNat_natCast] at HO
          have hcon := HP.out y wr (by omega)
          have hml := HPL.out y
          obtain ⟨m, hm⟩ : ∃ m, m = gMul 0 p x y := ⟨_, rfl⟩
          rw [← hm] at HO hcon hml
          obtain ⟨r, hr⟩ : ∃ r, r = rowM 0 p x js t := ⟨_, rfl⟩
          rw [← hr] at HO hbd ⊢
          have HR := Lib.hid hr
          have ht0 : (0 : Int) ≤ t := by omega
          have m0 : (0 : Int) ≤ m := by omega
          have m1 : (m : Int) < 62 := by omega
          have pb := pow_bounds m (by omega)
          clear hm hy he hr hml hc
          go_wp2_with fail
          refine hcon.mono ?_
          rintro e w1 ⟨rfl, hb1⟩
          have hE3 := hE2.trans (hb1.mono hE2.size)
          clear hb1 hcon hz
          go_wp2_with fail
          go_roundw
          case rel => exact ⟨hE3, t + 1, by omega, by go_num, by rw [← HO.out]⟩
          case measure => simp [intOf]; omega
        · obtain rfl : t = js.length := by omega
          go_wp2_with fail
          go_roundw
          case rel => exact ⟨hE2, .inr (.inl ⟨rfl, by rw [HZ.out]⟩)⟩
          case measure => simp [intOf]
    · go_wp2_with fail
      go_loopw [7, 20] (fun r i wr => Below w.heap.size w wr ∧ ∃ t : Nat, t ≤ js.length ∧ i = .int .i64 t ∧ r = .int .i64 (rowQ 0 p x js t)) (fun _ i _ => js.length - (intOf i).toNat)
      case atStart => exact ⟨hE, 0, Nat.zero_le _, rfl, rfl⟩
      case round =>
        obtain ⟨hE2, t, ht, rfl, rfl⟩ := hrel
        by_cases hlt : (t : Int) < js.length
        · have htl : t < js.length := by omega
          obtain ⟨b, off, rfl, hb, hc⟩ : ∃ b off, a = some ⟨b, off, none⟩ ∧ b < w.heap.size ∧ Cells w b off js := by rcases HC.out with h | h <;> first | omega | exact h
          have hz : wr.cell? ⟨b, off + t, none⟩ = some (.int .i64 (el js t)) := (hE2.cell (p := ⟨b, off + t, none⟩) hb).trans (hc t htl)
          have he := elOk_at HJ.out htl
          have HO := Lib.hid (HQO.out t)
          have hbd := HBQ.out t
          have HN := Lib.hid (HBQ.out (t + 1))
          obtain ⟨y, hy⟩ := Int.eq_ofNat_of_zero_le he.1
          rw [hy] at hz he
          rw [hy, Int.toNat_natCast] at HO
          have hcon := HQ.out y wr (by omega)
          have hml := HQL.out y
          obtain ⟨m, hm⟩ : ∃ m, m = gQuo 0 p x y := ⟨_, rfl⟩
          rw [← hm] at HO hcon hml
          obtain ⟨r, hr⟩ : ∃ r, r = rowQ 0 p x js t := ⟨_, rfl⟩
          rw [← hr] at HO hbd ⊢
          have HR := Lib.hid hr
          have ht0 : (0 : Int) ≤ t := by omega
          have m0 : (0 : Int) ≤ m := by omega
          have m1 : (m : Int) < 62 := by omega
          have pb := pow_bounds m (by omega)
          clear hm hy he hr hml hc
          go_wp2_with fail
          refine hcon.mono ?_
          rintro e w1 ⟨rfl, hb1⟩
          have hE3 := hE2.trans (hb1.mono hE2.size)
          clear hb1 hcon hz
          go_wp2_with fail
          go_roundw
          case rel => exact ⟨hE3, t + 1, by omega, by go_num, by rw [← HO.out]⟩
          case measure => simp [intOf]; omega
        · obtain rfl : t = js.length := by omega
          go_wp2_with fail
          go_roundw
          case rel => exact ⟨hE2, .inr (.inr ⟨rfl, rfl⟩)⟩
          case measure => simp [intOf]
    · go_wp2_with fail
      go_ret
      exact ⟨rfl, hE⟩

set_option maxHeartbeats 3200000 in
set_option maxRecDepth 100000 in
theorem productsWith_1 (p x cap : Nat) (a : Option Addr) (js : List Int) (w : World) (h : gOk 1 p = true) (hx : x < gOrd 1 p) (hj : elOk (gOrd 1 p) js js.length = true) (hc : js.length = 0 ∨ ∃ b off, a = some ⟨b, off, none⟩ ∧ b < w.heap.size ∧ Cells w b off js) (hl : js.length ≤ 9223372036854775807) :
    Calls Tryd.prog 54 #[gIf 1 p, .int .i64 x, .slice a js.length cap] w fun e w' => e = .returned (.int .i64 ((bitsN (proF 1 p x js) (gOrd 1 p) : Nat) : Int)) ∧ Below w.heap.size w w' := by
  have HC := Lib.hid hc
  have HJ := Lib.hid hj
  have HP := Lib.hid (fun y W (hy : y < gOrd 1 p) => product_1 p x y W h hx hy)
  have HQ := Lib.hid (fun y W (hy : y < gOrd 1 p) => quotient_1 p x y W h hx hy)
  have HM := Lib.hid (fun t => @rowM_or 1 p x js t h)
  have HQO := Lib.hid (fun t => @rowQ_or 1 p x js t h hx)
  have HBM := Lib.hid (fun t => @rowM_bd 1 p x js t h)
  have HBQ := Lib.hid (fun t => @rowQ_bd 1 p x js t h)
  have HPL := Lib.hid (fun y => @gMul_lt 1 p x y h)
  have HQL := Lib.hid (fun y => @gQuo_lt 1 p x y h hx)
  have ho := gOrd_le h
  have HF := Lib.hid (rowQ_all 1 p x js)
  have HZ := Lib.hid (rowQ_zero 1 p x js)
  rw [← HF.out]
  have i0 : ∀ w : World, (Instr.index 91 (.agg #[.func (.methodOf 48 "loop.example/g01331/impl.product") #[] #[], .func (.methodOf 48 "loop.example/g01331/impl.quotient") #[] #[]]) (.int .i64 0)).run Tryd.prog w = .ok (.func (.methodOf 48 "loop.example/g01331/impl.product") #[] #[]) w := fun _ => by kernel_rfl
  have i1 : ∀ w : World, (Instr.index 91 (.agg #[.func (.methodOf 48 "loop.example/g01331/impl.product") #[] #[], .func (.methodOf 48 "loop.example/g01331/impl.quotient") #[] #[]]) (.int .i64 1)).run Tryd.prog w = .ok (.func (.methodOf 48 "loop.example/g01331/impl.quotient") #[] #[]) w := fun _ => by kernel_rfl
  clear hc hj h hx
  unfold gIf
  go_enter Tryd.func54, Tryd.ntmps54
  go_wp2_with fail
  go_loopw [7, 15] (fun r i wr => Below w.heap.size w wr ∧ ((i = .int .i64 0 ∧ r = .int .i64 (rowM 1 p x js 0)) ∨ (i = .int .i64 1 ∧ r = .int .i64 (rowQ 1 p x js 0)) ∨ (i = .int .i64 2 ∧ r = .int .i64 (rowQ 1 p x js js.length)))) (fun _ i _ => 2 - (intOf i).toNat)
  case atStart => exact ⟨Below.refl _ _, .inl ⟨rfl, by rw [rowM_zero]⟩⟩
  case round =>
    obtain ⟨hE, hcas⟩ := hrel
    obtain ⟨wo, rfl⟩ : ∃ wo : World, wo = wr := ⟨_, rfl⟩
    rcases hcas with ⟨rfl, rfl⟩ | ⟨rfl, rfl⟩ | ⟨rfl, rfl⟩
    · go_wp2_with fail
      go_loopw [7, 20] (fun r i wr => Below w.heap.size w wr ∧ ∃ t : Nat, t ≤ js.length ∧ i = .int .i64 t ∧ r = .int .i64 (rowM 1 p x js t)) (fun _ i _ => js.length - (intOf i).toNat)
      case atStart => exact ⟨hE, 0, Nat.zero_le _, rfl, rfl⟩
      case round =>
        obtain ⟨hE2, t, ht, rfl, rfl⟩ := hrel
        by_cases hlt : (t : Int) < js.length
        · have htl : t < js.length := by omega
          obtain ⟨b, off, rfl, hb, hc⟩ : ∃ b off, a = some ⟨b, off, none⟩ ∧ b < w.heap.size ∧ Cells w b off js := by rcases HC.out with h | h <;> first | omega | exact h
          have hz : wr.cell? ⟨b, off + t, none⟩ = some (.int .i64 (el js t)) := (hE2.cell (p := ⟨b, off + t, none⟩) hb).trans (hc t htl)
          have he := elOk_at HJ.out htl
          have HO := Lib.hid (HM.out t)
          have hbd := HBM.out t
          have HN := Lib.hid (HBM.out (t + 1))
          obtain ⟨y, hy⟩ := Int.eq_ofNat_of_zero_le he.1
          rw [hy] at hz he
          rw [hy, Int.toNat_natCast] at HO
          have hcon := HP.out y wr (by omega)
          have hml := HPL.out y
          obtain ⟨m, hm⟩ : ∃ m, m = gMul 1 p x y := ⟨_, rfl⟩
          rw [← hm] at HO hcon hml
          obtain ⟨r, hr⟩ : ∃ r, r = rowM 1 p x js t := ⟨_, rfl⟩
          rw [← hr] at HO hbd ⊢
          have HR := Lib.hid hr
          have ht0 : (0 : Int) ≤ t := by omega
          have m0 : (0 : Int) ≤ m := by omega
          have m1 : (m : Int) < 62 := by omega
          have pb := pow_bounds m (by omega)
          clear hm hy he hr hml hc
          go_wp2_with fail
          refine hcon.mono ?_
          rintro e w1 ⟨rfl, hb1⟩
          have hE3 := hE2.trans (hb1.mono hE2.size)
          clear hb1 hcon hz
          go_wp2_with fail
          go_roundw
          case rel => exact ⟨hE3, t + 1, by omega, by go_num, by rw [← HO.out]⟩
          case measure => simp [intOf]; omega
        · obtain rfl : t = js.length := by omega
          go_wp2_with fail
          go_roundw
          case rel => exact ⟨hE2, .inr (.inl ⟨rfl, by rw [HZ.out]⟩)⟩
          case measure => simp [intOf]
    · go_wp2_with fail
      go_loopw [7, 20] (fun r i wr => Below w.heap.size w wr ∧ ∃ t : Nat, t ≤ js.length ∧ i = .int .i64 t ∧ r = .int .i64 (rowQ 1 p x js t)) (fun _ i _ => js.length - (intOf i).toNat)
      case atStart => exact ⟨hE, 0, Nat.zero_le _, rfl, rfl⟩
      case round =>
        obtain ⟨hE2, t, ht, rfl, rfl⟩ := hrel
        by_cases hlt : (t : Int) < js.length
        · have htl : t < js.length := by omega
          obtain ⟨b, off, rfl, hb, hc⟩ : ∃ b off, a = some ⟨b, off, none⟩ ∧ b < w.heap.size ∧ Cells w b off js := by rcases HC.out with h | h <;> first | omega | exact h
          have hz : wr.cell? ⟨b, off + t, none⟩ = some (.int .i64 (el js t)) := (hE2.cell (p := ⟨b, off + t, none⟩) hb).trans (hc t htl)
          have he := elOk_at HJ.out htl
          have HO := Lib.hid (HQO.out t)
          have hbd := HBQ.out t
          have HN := Lib.hid (HBQ.out (t + 1))
          obtain ⟨y, hy⟩ := Int.eq_ofNat_of_zero_le he.1
          rw [hy] at hz he
          rw [hy, Int.toNat_natCast] at HO
          have hcon := HQ.out y wr (by omega)
          have hml := HQL.out y
          obtain ⟨m, hm⟩ : ∃ m, m = gQuo 1 p x y := ⟨_, rfl⟩
          rw [← hm] at HO hcon hml
          obtain ⟨r, hr⟩ : ∃ r, r = rowQ 1 p x js t := ⟨_, rfl⟩
          rw [← hr] at HO hbd ⊢
          have HR := Lib.hid hr
          have ht0 : (0 : Int) ≤ t := by omega
          have m0 : (0 : Int) ≤ m := by omega
          have m1 : (m : Int) < 62 := by omega
          have pb := pow_bounds m (by omega)
          clear hm hy he hr hml hc
          go_wp2_with fail
          refine hcon.mono ?_
          rintro e w1 ⟨rfl, hb1⟩
          have hE3 := hE2.trans (hb1.mono hE2.size)
          clear hb1 hcon hz
          go_wp2_with fail
          go_roundw
          case rel => exact ⟨hE3, t + 1, by omega, by go_num, by rw [← HO.out]⟩
          case measure => simp [intOf]; omega
        · obtain rfl : t = js.length := by omega
          go_wp2_with fail
          go_roundw
          case rel => exact ⟨hE2, .inr (.inr ⟨rfl, rfl⟩)⟩
          case measure => simp [intOf]
    · go_wp2_with fail
      go_ret
      exact ⟨rfl, hE⟩

set_option maxHeartbeats 3200000 in
set_option maxRecDepth 100000 in
theorem productsWith_2 (p x cap : Nat) (a : Option Addr) (js : List Int) (w : World) (h : gOk 2 p = true) (hx : x < gOrd 2 p) (hj : elOk (gOrd 2 p) js js.length = true) (hc : js.length = 0 ∨ ∃ b off, a = some ⟨b, off, none⟩ ∧ b < w.heap.size ∧ Cells w b off js) (hl : js.length ≤ 9223372036854775807) :
    Calls Tryd.prog 54 #[gIf 2 p, .int .i64 x, .slice a js.length cap] w fun e w' => e = .returned (.int .i64 ((bitsN (proF 2 p x js) (gOrd 2 p) : Nat) : Int)) ∧ Below w.heap.size w w' := by
  have HC := Lib.hid hc
  have HJ := Lib.hid hj
  have HP := Lib.hid (fun y W (hy : y < gOrd 2 p) => product_2 p x y W h hx hy)
  have HQ := Lib.hid (fun y W (hy : y < gOrd 2 p) => quotient_2 p x y W h hx hy)
  have HM := Lib.hid (fun t => @rowM_or 2 p x js t h)
  have HQO := Lib.hid (fun t => @rowQ_or 2 p x js t h hx)
  have HBM := Lib.hid (fun t => @rowM_bd 2 p x js t h)
  have HBQ := Lib.hid (fun t => @rowQ_bd 2 p x js t h)
  have HPL := Lib.hid (fun y => @gMul_lt 2 p x y h)
  have HQL := Lib.hid (fun y => @gQuo_lt 2 p x y h hx)
  have ho := gOrd_le h
  have HF := Lib.hid (rowQ_all 2 p x js)
  have HZ := Lib.hid (rowQ_zero 2 p x js)
  rw [← HF.out]
  have i0 : ∀ w : World, (Instr.index 91 (.agg #[.func (.methodOf 48 "loop.example/g01331/impl.product") #[] #[], .func (.methodOf 48 "loop.example/g01331/impl.quotient") #[] #[]]) (.int .i64 0)).run Tryd.prog w = .ok (.func (.methodOf 48 "loop.example/g01331/impl.product") #[] #[]) w := fun _ => by kernel_rfl
  have i1 : ∀ w : World, (Instr.index 91 (.agg #[.func (.methodOf 48 "loop.example/g01331/impl.product") #[] #[], .func (.methodOf 48 "loop.example/g01331/impl.quotient") #[] #[]]) (.int .i64 1)).run Tryd.prog w = .ok (.func (.methodOf 48 "loop.example/g01331/impl.quotient") #[] #[]) w := fun _ => by kernel_rfl
  clear hc hj h hx
  unfold gIf
  go_enter Tryd.func54, Tryd.ntmps54
  go_wp2_with fail
  go_loopw [7, 15] (fun r i wr => Below w.heap.size w wr ∧ ((i = .int .i64 0 ∧ r = .int .i64 (rowM 2 p x js 0)) ∨ (i = .int .i64 1 ∧ r = .int .i64 (rowQ 2 p x js 0)) ∨ (i = .int .i64 2 ∧ r = .int .i64 (rowQ 2 p x js js.length)))) (fun _ i _ => 2 - (intOf i).toNat)
  case atStart => exact ⟨Below.refl _ _, .inl ⟨rfl, by rw [rowM_zero]⟩⟩
  case round =>
    obtain ⟨hE, hcas⟩ := hrel
    obtain ⟨wo, rfl⟩ : ∃ wo : World, wo = wr := ⟨_, rfl⟩
    rcases hcas with ⟨rfl, rfl⟩ | ⟨rfl, rfl⟩ | ⟨rfl, rfl⟩
    · go_wp2_with fail
      go_loopw [7, 20] (fun r i wr => Below w.heap.size w wr ∧ ∃ t : Nat, t ≤ js.length ∧ i = .int .i64 t ∧ r = .int .i64 (rowM 2 p x js t)) (fun _ i _ => js.length - (intOf i).toNat)
      case atStart => exact ⟨hE, 0, Nat.zero_le _, rfl, rfl⟩
      case round =>
        obtain ⟨hE2, t, ht, rfl, rfl⟩ := hrel
        by_cases hlt : (t : Int) < js.length
        · have htl : t < js.length := by omega
          obtain ⟨b, off, rfl, hb, hc⟩ : ∃ b off, a = some ⟨b, off, none⟩ ∧ b < w.heap.size ∧ Cells w b off js := by rcases HC.out with h | h <;> first | omega | exact h
          have hz : wr.cell? ⟨b, off + t, none⟩ = some (.int .i64 (el js t)) := (hE2.cell (p := ⟨b, off + t, none⟩) hb).trans (hc t htl)
          have he := elOk_at HJ.out htl
          have HO := Lib.hid (HM.out t)
          have hbd := HBM.out t
          have HN := Lib.hid (HBM.out (t + 1))
          obtain ⟨y, hy⟩ := Int.eq_ofNat_of_zero_le he.1
          rw [hy] at hz he
          rw [hy, Int.toNat_natCast] at HO
          have hcon := HP.out y wr (by omega)
          have hml := HPL.out y
          obtain ⟨m, hm⟩ : ∃ m, m = gMul 2 p x y := ⟨_, rfl⟩
          rw [← hm] at HO hcon hml
          obtain ⟨r, hr⟩ : ∃ r, r = rowM 2 p x js t := ⟨_, rfl⟩
          rw [← hr] at HO hbd ⊢
          have HR := Lib.hid hr
          have ht0 : (0 : Int) ≤ t := by omega
          have m0 : (0 : Int) ≤ m := by omega
          have m1 : (m : Int) < 62 := by omega
          have pb := pow_bounds m (by omega)
          clear hm hy he hr hml hc
          go_wp2_with fail
          refine hcon.mono ?_
          rintro e w1 ⟨rfl, hb1⟩
          have hE3 := hE2.trans (hb1.mono hE2.size)
          clear hb1 hcon hz
          go_wp2_with fail
          go_roundw
          case rel => exact ⟨hE3, t + 1, by omega, by go_num, by rw [← HO.out]⟩
          case measure => simp [intOf]; omega
        · obtain rfl : t = js.length := by omega
          go_wp2_with fail
          go_roundw
          case rel => exact ⟨hE2, .inr (.inl ⟨rfl, by rw [HZ.out]⟩)⟩
          case measure => simp [intOf]
    · go_wp2_with fail
      go_loopw [7, 20] (fun r i wr => Below w.heap.size w wr ∧ ∃ t : Nat, t ≤ js.length ∧ i = .int .i64 t ∧ r = .int .i64 (rowQ 2 p x js t)) (fun _ i _ => js.length - (intOf i).toNat)
      case atStart => exact ⟨hE, 0, Nat.zero_le _, rfl, rfl⟩
      case round =>
        obtain ⟨hE2, t, ht, rfl, rfl⟩ := hrel
        by_cases hlt : (t : Int) < js.length
        · have htl : t < js.length := by omega
          obtain ⟨b, off, rfl, hb, hc⟩ : ∃ b off, a = some ⟨b, off, none⟩ ∧ b < w.heap.size ∧ Cells w b off js := by rcases HC.out with h | h <;> first | omega | exact h
          have hz : wr.cell? ⟨b, off + t, none⟩ = some (.int .i64 (el js t)) := (hE2.cell (p := ⟨b, off + t, none⟩) hb).trans (hc t htl)
          have he := elOk_at HJ.out htl
          have HO := Lib.hid (HQO.out t)
          have hbd := HBQ.out t
          have HN := Lib.hid (HBQ.out (t + 1))
          obtain ⟨y, hy⟩ := Int.eq_ofNat_of_zero_le he.1
          rw [hy] at hz he
          rw [hy, Int.toNat_natCast] at HO
          have hcon := HQ.out y wr (by omega)
          have hml := HQL.out y
          obtain ⟨m, hm⟩ : ∃ m, m = gQuo 2 p x y := ⟨_, rfl⟩
          rw [← hm] at HO hcon hml
          obtain ⟨r, hr⟩ : ∃ r, r = rowQ 2 p x js t := ⟨_, rfl⟩
          rw [← hr] at HO hbd ⊢
          have HR := Lib.hid hr
          have ht0 : (0 : Int) ≤ t := by omega
          have m0 : (0 : Int) ≤ m := by omega
          have m1 : (m : Int) < 62 := by omega
          have pb := pow_bounds m (by omega)
          clear hm hy he hr hml hc
          go_wp2_with fail
          refine hcon.mono ?_
          rintro e w1 ⟨rfl, hb1⟩
          have hE3 := hE2.trans (hb1.mono hE2.size)
          clear hb1 hcon hz
          go_wp2_with fail
          go_roundw
          case rel => exact ⟨hE3, t + 1, by omega, by go_num, by rw [← HO.out]⟩
          case measure => simp [intOf]; omega
        · obtain rfl : t = js.length := by omega
          go_wp2_with fail
          go_roundw
          case rel => exact ⟨hE2, .inr (.inr ⟨rfl, rfl⟩)⟩
          case measure => simp [intOf]
    · go_wp2_with fail
      go_ret
      exact ⟨rfl, hE⟩

theorem productsWith_0s (p x : Nat) (v : Value) (js : List Int) (w : World) (h : gOk 0 p = true) (hx : x < gOrd 0 p) (hj : elOk (gOrd 0 p) js js.length = true) (hs : Sl w v js) (hl : js.length ≤ 9223372036854775807) :
    Calls Tryd.prog 54 #[gIf 0 p, .int .i64 x, v] w fun e w' => e = .returned (.int .i64 ((bitsN (proF 0 p x js) (gOrd 0 p) : Nat) : Int)) ∧ Below w.heap.size w w' := by
  rcases hs with ⟨a, c, rfl, rfl⟩ | ⟨b, off, cap, rfl, hb, hc⟩
  · exact productsWith_0 p x c a [] w h hx hj (.inl rfl) (by simp)
  · exact productsWith_0 p x cap _ js w h hx hj (.inr ⟨b, off, rfl, hb, hc⟩) hl

theorem productsWith_1s (p x : Nat) (v : Value) (js : List Int) (w : World) (h : gOk 1 p = true) (hx : x < gOrd 1 p) (hj : elOk (gOrd 1 p) js js.length = true) (hs : Sl w v js) (hl : js.length ≤ 9223372036854775807) :
    Calls Tryd.prog 54 #[gIf 1 p, .int .i64 x, v] w fun e w' => e = .returned (.int .i64 ((bitsN (proF 1 p x js) (gOrd 1 p) : Nat) : Int)) ∧ Below w.heap.size w w' := by
  rcases hs with ⟨a, c, rfl, rfl⟩ | ⟨b, off, cap, rfl, hb, hc⟩
  · exact productsWith_1 p x c a [] w h hx hj (.inl rfl) (by simp)
  · exact productsWith_1 p x cap _ js w h hx hj (.inr ⟨b, off, rfl, hb, hc⟩) hl

theorem productsWith_2s (p x : Nat) (v : Value) (js : List Int) (w : World) (h : gOk 2 p = true) (hx : x < gOrd 2 p) (hj : elOk (gOrd 2 p) js js.length = true) (hs : Sl w v js) (hl : js.length ≤ 9223372036854775807) :
    Calls Tryd.prog 54 #[gIf 2 p, .int .i64 x, v] w fun e w' => e = .returned (.int .i64 ((bitsN (proF 2 p x js) (gOrd 2 p) : Nat) : Int)) ∧ Below w.heap.size w w' := by
  rcases hs with ⟨a, c, rfl, rfl⟩ | ⟨b, off, cap, rfl, hb, hc⟩
  · exact productsWith_2 p x c a [] w h hx hj (.inl rfl) (by simp)
  · exact productsWith_2 p x cap _ js w h hx hj (.inr ⟨b, off, rfl, hb, hc⟩) hl

end Go.Proofs.YtklgimikdnokcaaDoor

